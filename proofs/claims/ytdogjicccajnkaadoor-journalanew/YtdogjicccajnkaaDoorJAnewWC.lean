/- The walk of JournalAnew. -/
import Derived.Test.YtdogjicccajnkaaDoorJAnewMC
import Derived.Test.YtdogjicccajnkaaDoorJLifeC
import Derived.Test.YtdogjicccajnkaaDoorJRefWrite2C
import Derived.Test.YtdogjicccajnkaaDoorJHasC
namespace Go.Proofs.YtdogjicccajnkaaDoor
open Go Go.RowKit

theorem idxP (b o n cap k : Nat) (h : k < n) (w : World) : (Instr.indexAt 22 (.slice (some ⟨b, o, none⟩) n cap) (.int .i64 k)).run Tryd.prog w = .ok (.pointer (some ⟨b, o + k * 4, none⟩)) w := by
  have h1 : (k : Int) < n := by omega
  go_simp
theorem addP (a b r : Int) (h : IntKind.i64.wrap (a + b) = r) (w : World) : (binOp .add 3 (.int .i64 a) (.int .i64 b)).run Tryd.prog w = .ok (.int .i64 r) w := by subst h; go_simp
theorem fa59_0 (b : Nat) (w : World) : (Instr.fieldAt 59 (.pointer (some ⟨b, 0, none⟩)) 0).run Tryd.prog w = .ok (.pointer (some ⟨b, 0, none⟩)) w := by go_simp
theorem fa59_1 (b : Nat) (w : World) : (Instr.fieldAt 59 (.pointer (some ⟨b, 0, none⟩)) 1).run Tryd.prog w = .ok (.pointer (some ⟨b, 1, none⟩)) w := by go_simp
/-- A script's call at a place in memory. -/
def OpAt (w : World) (b o : Nat) (x : OpV6) : Prop := w.cell? ⟨b, o, none⟩ = some (.int .i64 x.kd) ∧ w.cell? ⟨b, o + 1, none⟩ = some x.va ∧ w.cell? ⟨b, o + 2, none⟩ = some (.int .u8 x.by_) ∧ w.cell? ⟨b, o + 3, none⟩ = some (.int .i64 x.raw)
theorem OpAt.load {w : World} {b o : Nat} {x : OpV6} (h : OpAt w b o x) : (Instr.loadAt 45 (.pointer (some ⟨b, o, none⟩))).run Tryd.prog w = .ok (.agg #[.int .i64 x.kd, x.va, .int .u8 x.by_, .int .i64 x.raw]) w := by
  obtain ⟨h0, h1, h2, h3⟩ := h
  go_simp
theorem OpAt.below {w w' : World} {b o : Nat} {x : OpV6} (h : OpAt w b o x) (hB : Below w.heap.size w w') : OpAt w' b o x := by
  have hb : b < w.heap.size := World.block_lt_of_cell? w _ h.1
  exact ⟨(hB.cell (p := ⟨b, o, none⟩) hb).trans h.1, (hB.cell (p := ⟨b, o + 1, none⟩) hb).trans h.2.1, (hB.cell (p := ⟨b, o + 2, none⟩) hb).trans h.2.2.1, (hB.cell (p := ⟨b, o + 3, none⟩) hb).trans h.2.2.2⟩
theorem Ops6.at {W : World} {a : Option Addr} {len : Nat} {xs : List OpV6} (h : Ops6 W a len xs) {i : Nat} {x : OpV6} (hx : xs[i]? = some x) : ∃ b o, a = some ⟨b, o, none⟩ ∧ OpAt W b (o + i * 4) x := by
  obtain ⟨b, o, e, k0, k1, k2, k3⟩ := h.2 i x hx
  exact ⟨b, o, e, k0, by rw [Nat.add_assoc]; exact k1, by rw [Nat.add_assoc]; exact k2, by rw [Nat.add_assoc]; exact k3⟩
set_option maxRecDepth 100000 in
set_option maxHeartbeats 8000000 in
theorem journalAnew_walk (c : Int) (v : LifeV) (a : Option Addr) (N cap : Nat) (xs : List OpV6) (W : World) (ht : Tab W) (hc : -9223372036854775808 ≤ c ∧ c ≤ 9223372036854775807) (hv : LifeF W v) (hs : Ops6 W a N xs) (hF : ∀ x ∈ xs, OpF6 W x) (hN : N ≤ 9223372036854775807) :
    Calls Tryd.prog 6 #[.int .i64 c, .agg #[.slice v.sa v.sn v.sc, .int .i64 v.cut, .slice v.ta v.tn v.tc, .slice v.ga v.gn v.gc], .slice a N cap] W fun e w' => e = .returned (.bool true) ∧ Below W.heap.size W w' := by
  have HNN := hid (sizeOf6_le c)
  have HSZ := hid (fun w => size_any c hc.1 hc.2 w)
  generalize sizeOf6 c = n at *
  have HT := hid ht
  have HTL := hid (tab_lt ht)
  have HS := hid hs
  have HF := hid hF
  have HNL := hid hN
  have HV := hid hv
  have HPK := hid (fun w => pick_any v.cut 400 hv.2.2.2.1.1 hv.2.2.2.1.2 (by decide) w)
  have HQ := hid (pk_lt v.cut (n := 400) (by decide))
  generalize pk v.cut 400 = q at *
  have HNB : Hid (nbOf n ≠ 0 ∧ nbOf n ≤ 1000000) := hid (by have := HNN.out; unfold nbOf; omega)
  have HNB2 : Hid (nbOf n ≤ 45) := hid (by have := HNN.out; unfold nbOf; omega)
  have HB0 : Hid (Below W.heap.size W (W.alloc (.cells #[.slice v.sa v.sn v.sc, .int .i64 v.cut, .slice v.ta v.tn v.tc, .slice v.ga v.gn v.gc] 59))) := hid ((Below.refl _ _).alloc (Nat.le_refl _) _)
  have HR0 : Hid ((W.alloc (.cells #[.slice v.sa v.sn v.sc, .int .i64 v.cut, .slice v.ta v.tn v.tc, .slice v.ga v.gn v.gc] 59)).heap[W.heap.size]? = some (.cells #[.slice v.sa v.sn v.sc, .int .i64 v.cut, .slice v.ta v.tn v.tc, .slice v.ga v.gn v.gc] 59 (0, 0))) := hid (heap_alloc_last W _)
  clear ht hs hF hN hc hv
  go_enter Tryd.func6, Tryd.ntmps6
  go_wp2_with fail
  generalize W.alloc (.cells #[.slice v.sa v.sn v.sc, .int .i64 v.cut, .slice v.ta v.tn v.tc, .slice v.ga v.gn v.gc] 59) = w0 at *
  generalize hab : W.heap.size = ab at *
  have HW0 : Hid (ab ≤ W.heap.size) := hid (Nat.le_of_eq hab.symm)
  refine (shown_any w0 (HT.out.belowB HB0.out HTL.out)).mono ?_
  rintro e w1 ⟨rfl, hB1⟩
  have HB1 : Hid (Below ab W w1) := hid (HB0.out.trans (hB1.mono (Nat.le_trans HW0.out HB0.out.size)))
  have HR1 := hid (below_at hB1 HR0.out (heap_lt HR0.out))
  clear hB1 HR0 HB0
  go_wp2_with fail
  refine (HSZ.out _).mono ?_
  rintro e wz ⟨rfl, hwz⟩
  obtain rfl := hwz.symm
  go_wp2_with fail
  refine (begun_any n HNN.out.1 (by have := HNN.out; omega) w1 (HT.out.belowB HB1.out HTL.out)).mono ?_
  intro e w2 hbg
  obtain ⟨p, j, r, X, s, rfl, hJ2, hsn, hso, hR2, hrb, hB2⟩ := hbg.js
  have hb1 : ab < w1.heap.size := heap_lt HR1.out
  have hd : Below w2.heap.size w2 w2.drew := (Below.refl _ _).drew
  have hW2 : Below ab W w2 := HB1.out.trans (hB2.mono (Nat.le_of_lt hb1))
  have hL2 := below_at hB2 HR1.out hb1
  have HLB := hid (below_at hd hL2 (heap_lt hL2))
  have HWD := hid (hW2.trans (hd.mono (Nat.le_trans HW0.out hW2.size)))
  have HDD := hid (hJ2.jr.disk.below hd)
  have HJD := hid (hJ2.below hd)
  have HRD := hid (hR2.below hd)
  have HSN := hid hsn
  have HB1L := hid hb1
  generalize w1.heap.size = b1 at *
  have HAX : Hid (ab ∉ X) := hid (fun hm => by have := hJ2.lo ab hm; have := HB1L.out; omega)
  obtain ⟨op0, hop0⟩ : ∃ op0, s.ops = op0 := ⟨_, rfl⟩
  have HO0 := hid hop0
  have HAD : Hid (IntKind.i64.wrap (op0 + (q : Nat)) = op0 + (q : Nat)) := hid (by have := HQ.out; have := HNB2.out; rw [IntWalk.i64_in _ ⟨by omega, by omega⟩])
  clear hJ2 hsn hso hR2 hB2 hbg hb1 hd hW2 hL2 HR1 HB1 hop0
  go_wp2_with fail
  refine h_openL (S := fun w' => w'.heap[ab]? = some (.cells #[.slice v.sa v.sn v.sc, .int .i64 v.cut, .slice v.ta v.tn v.tc, .slice v.ga v.gn v.gc] 59 (0, 0))) (by kernel_rfl) (by kernel_rfl) (fun _ _ _ _ _ h => h) (L := #[false, false, false, false, false, false, false, false]) (by kernel_rfl) ?_
  intro Q' hns hP hN
  have hS := HLB.out
  refine h_takeL (i := 0) (v := .pointer (some ⟨p, 0, none⟩)) hns rfl rfl (by kernel_rfl) (by kernel_rfl) hP (y_move rfl (by kernel_rfl) (by kernel_rfl)) hS rfl (L' := #[true, false, false, false, false, false, false, false]) (by kernel_rfl) ?_
  refine h_takeL (i := 1) (v := .pointer (some ⟨p, 0, none⟩)) hns rfl rfl (by kernel_rfl) (by kernel_rfl) hP (y_move rfl (by kernel_rfl) (by kernel_rfl)) hS rfl (L' := #[true, true, false, false, false, false, false, false]) (by kernel_rfl) ?_
  refine h_takeL (i := 3) (v := .pointer (some ⟨ab, 1, none⟩)) hns rfl rfl (by kernel_rfl) (by kernel_rfl) hP (y_faddr rfl (by kernel_rfl) (by kernel_rfl) (fa59_1 (ab))) hS rfl (L' := #[true, true, false, true, false, false, false, false]) (by kernel_rfl) ?_
  refine h_takeL (i := 4) (v := .int .i64 v.cut) hns rfl rfl (by kernel_rfl) (by kernel_rfl) hP (y_load rfl (by kernel_rfl) (by kernel_rfl) (fun w' h => load1 Tryd.isAgg3 (cell_at h 1 rfl))) hS rfl (L' := #[true, true, false, true, true, false, false, false]) (by kernel_rfl) ?_
  refine h_callL (i := 2) (f := 20) (args := #[.pointer (some ⟨p, 0, none⟩)]) (by kernel_rfl) rfl rfl (by kernel_rfl) (enter_go rfl (by kernel_rfl) (fun w => by go_simp)) (L' := #[true, true, true, true, true, false, false, false]) (by kernel_rfl) ?_
  refine (ops_d HDD.out).mono ?_
  rintro e wz ⟨rfl, hwz⟩
  obtain rfl := hwz.symm
  refine ⟨_, rfl, hS, ?_⟩
  rw [HO0.out]
  refine h_callL (i := 5) (f := 11) (args := #[.int .i64 v.cut, .int .i64 400]) (by kernel_rfl) rfl rfl (by kernel_rfl) (enter_go rfl (by kernel_rfl) (fun w => by go_simp)) (L' := #[true, true, true, true, true, true, false, false]) (by kernel_rfl) ?_
  refine (HPK.out _).mono ?_
  rintro e wz ⟨rfl, hwz⟩
  obtain rfl := hwz.symm
  refine ⟨_, rfl, hS, ?_⟩
  refine h_takeL (i := 6) (v := .int .i64 (op0 + (q : Nat))) hns rfl rfl (by kernel_rfl) (by kernel_rfl) hP (y_bin (k := .i64) (k' := .i64) (m := op0) (n := (q : Nat)) rfl (by kernel_rfl) (by kernel_rfl) (by kernel_rfl) (addP _ _ _ HAD.out)) hS rfl (L' := #[true, true, true, true, true, true, true, false]) (by kernel_rfl) ?_
  simp only [List.setIfInBounds_toArray, List.set_cons_zero, List.set_cons_succ]
  refine h_callL (i := 7) (f := 26) (args := #[.pointer (some ⟨p, 0, none⟩), .int .i64 (op0 + (q : Nat))]) (by kernel_rfl) rfl rfl (by kernel_rfl) (enter_go rfl (by kernel_rfl) (fun w => by go_simp)) (L' := #[true, true, true, true, true, true, true, true]) (by kernel_rfl) ?_
  refine (cutAt_d HDD.out (op0 + (q : Nat))).mono ?_
  rintro e w3 ⟨rfl, hD3, hF3⟩
  have hS3 := hF3.at hS HAX.out
  refine ⟨_, rfl, hS3, ?_⟩
  simp only [List.setIfInBounds_toArray, List.set_cons_zero, List.set_cons_succ]
  refine wpAnyH_done (by kernel_rfl) ?_ _
  refine hN _ _ ?_
  clear hP hN hns
  clear hS HO0 HAD HPK
  have HK3 := hid (Kp.of_frX HDD.out hF3)
  have HW3 : Hid (Below ab W w3) := hid (HWD.out.trans (hF3.below (Nat.le_trans HW0.out HWD.out.size) (fun k hk => Nat.le_trans (Nat.le_of_lt HB1L.out) (HJD.out.lo k hk))))
  have hJ3 : Ja b1 w3 j p n X { s with cut := op0 + (q : Nat), gone := false } 0 0 := ⟨by have h1 := hF3.at HJD.out.jr.jn (HDD.out.jother HJD.out.jr.jn); rw [HSN.out] at h1; exact h1, hD3, HT.out.belowB HW3.out HTL.out, HSN.out, HJD.out.lo, HJD.out.jlo⟩
  have HJ3 := hid hJ3
  have HR3 := hid (HK3.out.rj HRD.out)
  have HL3 := hid hS3
  clear hS3 hD3 hF3 hJ3 HDD HLB HWD HJD HRD HK3
  generalize hnb : nbOf n = nb at *
  go_wp2_with fail
  go_loopw [12, 13, 14] (fun v12 _ _ wr => ∃ (i : Nat) (X : List Nat) (s : DS) (sq : Nat) (off : Int), i ≤ v.sn ∧ i ≤ 25 ∧ v12 = .int .i64 i ∧ Ja b1 wr j p n X s sq off ∧ sq ≤ i ∧ Rj wr (r + 1) r (zeros nb) 0 ∧ wr.heap[ab]? = some (.cells #[.slice v.sa v.sn v.sc, .int .i64 v.cut, .slice v.ta v.tn v.tc, .slice v.ga v.gn v.gc] 59 (0, 0)) ∧ Below ab W wr) (fun v12 _ _ _ => v.sn - (intOf v12).toNat)
  case atStart => exact ⟨0, X, _, 0, 0, Nat.zero_le _, Nat.zero_le _, rfl, HJ3.out, Nat.le_refl _, HR3.out, HL3.out, HW3.out⟩
  case round =>
    clear HJ3 HR3 HL3 HW3
    rename World => wo
    obtain ⟨i, X, s, sq, off, hi1, hi2, rfl, hJ, hsq, hR, hL, hWo⟩ := hrel
    have hwi : IntKind.i64.wrap ((i : Int) + 1) = ((i + 1 : Nat) : Int) := by rw [IntWalk.i64_in _ ⟨by omega, by omega⟩]; omega
    have hl0 : wo.cell? ⟨ab, 0, none⟩ = some (.slice v.sa v.sn v.sc) := cell_at hL 0 rfl
    have hl2 : wo.cell? ⟨ab, 2, none⟩ = some (.slice v.ta v.tn v.tc) := cell_at hL 2 rfl
    by_cases hlt : i < v.sn ∧ i < 25
    · have hb1 : (i : Int) < (v.sn : Int) := by omega
      have hb2 : (i : Int) < 25 := by omega
      obtain ⟨o, ho⟩ : ∃ o, v.xs[i]? = some o := ⟨_, List.getElem?_eq_getElem (by have := HV.out.1.1; omega)⟩
      obtain ⟨bo, oo, hsa, hat⟩ := HV.out.1.at ho
      have HSA := hid hsa
      have HOF := hid (HV.out.2.1 o (List.mem_of_getElem? ho))
      have HIN : Hid (i < v.sn) := hid hlt.1
      have HI : Hid (i + 1 ≤ v.sn ∧ i + 1 ≤ 25) := hid ⟨hlt.1, hlt.2⟩
      have hd : Below wo.heap.size wo wo.drew := (Below.refl _ _).drew
      have hWd : Below ab W wo.drew := hWo.trans (hd.mono (Nat.le_trans HW0.out hWo.size))
      obtain ⟨vr, hr, hor⟩ := hR
      have hzl : (zeros nb).length = nb := by simp [zeros]
      obtain ⟨ar, cr, rfl⟩ : ∃ a cap, vr = .slice a nb cap := by
        rcases hor.2 with ⟨e, h0⟩ | ⟨g, cap, cur, e, _⟩
        · exact ⟨none, 0, by rw [e, ← hzl, h0]⟩
        · exact ⟨_, cap, by rw [e, hzl]⟩
      have HS10 : Hid (wo.drew.heap[ab]? = some (.cells #[.slice v.sa v.sn v.sc, .int .i64 v.cut, .slice v.ta v.tn v.tc, .slice v.ga v.gn v.gc] 59 (0, 0)) ∧ OpAt wo.drew bo (oo + i * 4) o ∧ wo.drew.heap[r]? = some (.cells #[.slice ar nb cr, .int .i64 0] 51 (0, 0)) ∧ Iz wo.drew o.va o.zs) := hid ⟨below_at hd hL (heap_lt hL), hat.below (by rw [hab]; exact hWd), below_at hd hr (heap_lt hr), HOF.out.1.below (by rw [hab]; exact hWd)⟩
      have HPD := hid (And.intro (hJ.below hd) (And.intro ((show Rj wo (r + 1) r (zeros nb) 0 from ⟨_, hr, hor⟩).below hd) (And.intro hWd hsq)))
      clear hJ hsq hL hWo hsa hat ho hd hWd hr hor hzl hi1 hi2 hlt
      go_wp2_with fail
      refine z_open (S := fun w' => w'.heap[ab]? = some (.cells #[.slice v.sa v.sn v.sc, .int .i64 v.cut, .slice v.ta v.tn v.tc, .slice v.ga v.gn v.gc] 59 (0, 0)) ∧ OpAt w' bo (oo + i * 4) o ∧ w'.heap[r]? = some (.cells #[.slice ar nb cr, .int .i64 0] 51 (0, 0)) ∧ Iz w' o.va o.zs) 14 (by kernel_rfl) (by kernel_rfl) (fun _ _ _ _ _ h => h) (L := #[false, false, false, false, false, false, false, false, false, false, false, false, false, false, false, false]) (by kernel_rfl) ?_
      intro Q' hns hP hN
      have hS := HS10.out
      refine z_pure (i := 0) (v := .pointer (some ⟨ab, 0, none⟩)) hns rfl rfl rfl (by kernel_rfl) (by kernel_rfl) hP (y_faddr rfl (by kernel_rfl) (by kernel_rfl) (fa59_0 (ab))) (fun _ => hS) rfl (L' := #[true, false, false, false, false, false, false, false, false, false, false, false, false, false, false, false]) (by kernel_rfl) ?_
      refine z_read (i := 1) (v := .slice (some ⟨bo, oo, none⟩) v.sn v.sc) hns rfl (by kernel_rfl) rfl rfl (by kernel_rfl) (by kernel_rfl) hP (y_load rfl (by kernel_rfl) (by kernel_rfl) (fun w' h => load1 Tryd.isAgg22 (by rw [← HSA.out]; exact cell_at h.1 0 rfl))) rfl hS rfl (L' := #[true, true, false, false, false, false, false, false, false, false, false, false, false, false, false, false]) (by kernel_rfl) ?_
      refine z_pure (i := 2) (v := .int .i64 i) hns rfl rfl rfl (by kernel_rfl) (by kernel_rfl) hP (y_move rfl (by kernel_rfl) (by kernel_rfl)) (fun _ => hS) rfl (L' := #[true, true, true, false, false, false, false, false, false, false, false, false, false, false, false, false]) (by kernel_rfl) ?_
      refine z_pure (i := 3) (v := .pointer (some ⟨bo, oo + i * 4, none⟩)) hns rfl rfl rfl (by kernel_rfl) (by kernel_rfl) hP (y_index rfl (by kernel_rfl) (by kernel_rfl) (by kernel_rfl) (idxP bo oo v.sn v.sc i HIN.out)) (fun _ => hS) rfl (L' := #[true, true, true, true, false, false, false, false, false, false, false, false, false, false, false, false]) (by kernel_rfl) ?_
      refine z_read (i := 4) (v := .agg #[.int .i64 o.kd, o.va, .int .u8 o.by_, .int .i64 o.raw]) hns rfl (by kernel_rfl) rfl rfl (by kernel_rfl) (by kernel_rfl) hP (y_load rfl (by kernel_rfl) (by kernel_rfl) (fun w' h => h.2.1.load)) rfl hS rfl (L' := #[true, true, true, true, true, false, false, false, false, false, false, false, false, false, false, false]) (by kernel_rfl) ?_
      refine z_pure (i := 5) (v := .pointer (some ⟨r, 0, none⟩)) hns rfl rfl rfl (by kernel_rfl) (by kernel_rfl) hP (y_move rfl (by kernel_rfl) (by kernel_rfl)) (fun _ => hS) rfl (L' := #[true, true, true, true, true, true, false, false, false, false, false, false, false, false, false, false]) (by kernel_rfl) ?_
      refine z_pure (i := 6) (v := .pointer (some ⟨r, 0, none⟩)) hns rfl rfl rfl (by kernel_rfl) (by kernel_rfl) hP (y_nil rfl (by kernel_rfl) (by kernel_rfl)) (fun _ => hS) rfl (L' := #[true, true, true, true, true, true, true, false, false, false, false, false, false, false, false, false]) (by kernel_rfl) ?_
      simp only [List.setIfInBounds_toArray, List.set_cons_zero, List.set_cons_succ]
      refine z_pure (i := 7) (v := .pointer (some ⟨r, 0, none⟩)) hns rfl rfl rfl (by kernel_rfl) (by kernel_rfl) hP (y_faddr rfl (by kernel_rfl) (by kernel_rfl) (fa51_0 (r))) (fun _ => hS) rfl (L' := #[true, true, true, true, true, true, true, true, false, false, false, false, false, false, false, false]) (by kernel_rfl) ?_
      refine z_read (i := 8) (v := .slice ar nb cr) hns rfl (by kernel_rfl) rfl rfl (by kernel_rfl) (by kernel_rfl) hP (y_load rfl (by kernel_rfl) (by kernel_rfl) (fun w' h => load1 Tryd.isAgg49 (cell_at h.2.2.1 0 rfl))) rfl hS rfl (L' := #[true, true, true, true, true, true, true, true, true, false, false, false, false, false, false, false]) (by kernel_rfl) ?_
      refine z_pure (i := 9) (v := .int .i64 (nb : Nat)) hns rfl rfl rfl (by kernel_rfl) (by kernel_rfl) hP (y_lenT len49 (p := ar) (c := cr) rfl (by kernel_rfl) (by kernel_rfl)) (fun _ => hS) rfl (L' := #[true, true, true, true, true, true, true, true, true, true, false, false, false, false, false, false]) (by kernel_rfl) ?_
      refine z_call (i := 10) (f := 22) (args := #[.agg #[.int .i64 o.kd, o.va, .int .u8 o.by_, .int .i64 o.raw], .int .i64 nb]) (by kernel_rfl) rfl rfl (by kernel_rfl) (enter_go rfl (by kernel_rfl) (fun w => by go_simp)) (L' := #[true, true, true, true, true, true, true, true, true, true, true, false, false, false, false, false]) (by kernel_rfl) ?_
      refine (blocks_any nb HNB.out.1 HNB.out.2 hS.2.2.2 HOF.out.2.1 HOF.out.2.2.1 HOF.out.2.2.2.1 HOF.out.2.2.2.2.1).mono ?_
      rintro e w6 ⟨v1, v2, zs, qs, rfl, hA6, hK6, hz6, hq6, _, hB6⟩
      have hS6 : _ ∧ _ ∧ _ ∧ _ := And.intro (below_at hB6 hS.1 (heap_lt hS.1)) (And.intro (hS.2.1.below hB6) (And.intro (below_at hB6 hS.2.2.1 (heap_lt hS.2.2.1)) (hS.2.2.2.below hB6)))
      refine ⟨_, rfl, hS6, ?_⟩
      refine z_pure (i := 11) (v := .tuple #[v1, v2]) hns rfl rfl rfl (by kernel_rfl) (by kernel_rfl) hP (y_move rfl (by kernel_rfl) (by kernel_rfl)) (fun _ => hS6) rfl (L' := #[true, true, true, true, true, true, true, true, true, true, true, true, false, false, false, false]) (by kernel_rfl) ?_
      refine z_pure (i := 12) (v := v1) hns rfl rfl rfl (by kernel_rfl) (by kernel_rfl) hP (y_ext rfl (by kernel_rfl) (by kernel_rfl) (ext2_0 v1 v2)) (fun _ => hS6) rfl (L' := #[true, true, true, true, true, true, true, true, true, true, true, true, true, false, false, false]) (by kernel_rfl) ?_
      refine z_pure (i := 13) (v := v2) hns rfl rfl rfl (by kernel_rfl) (by kernel_rfl) hP (y_ext rfl (by kernel_rfl) (by kernel_rfl) (ext2_1 v1 v2)) (fun _ => hS6) rfl (L' := #[true, true, true, true, true, true, true, true, true, true, true, true, true, true, false, false]) (by kernel_rfl) ?_
      refine z_val (i := 14) (v := v1) (by kernel_rfl) rfl rfl (by kernel_rfl) (run_asg rfl (by kernel_rfl)) hS6 rfl (L' := #[true, true, true, true, true, true, true, true, true, true, true, true, true, true, true, false]) (by kernel_rfl) ?_
      simp only [List.setIfInBounds_toArray, List.set_cons_zero, List.set_cons_succ]
      refine z_pure (i := 15) (v := v2) hns rfl rfl rfl (by kernel_rfl) (by kernel_rfl) hP (y_assign rfl (by kernel_rfl) (by kernel_rfl)) (fun _ => hS6) rfl (L' := #[true, true, true, true, true, true, true, true, true, true, true, true, true, true, true, true]) (by kernel_rfl) ?_
      try simp only [List.setIfInBounds_toArray, List.set_cons_zero, List.set_cons_succ]
      refine z_done (by kernel_rfl) ?_ _
      refine hN _ _ ?_
      clear hP hN hns
      clear hS HS10
      have hpd := HPD.out
      have hW6 : Below ab W w6 := hpd.2.2.1.trans (hB6.mono (Nat.le_trans HW0.out hpd.2.2.1.size))
      have hJ6 := hpd.1.below hB6
      have hR6 := hpd.2.1.below hB6
      have hb16 : b1 ≤ w6.heap.size := by have := heap_lt hJ6.jn; have := hJ6.jlo; omega
      have HWR := hid (hJ6.wr hb16 (by have := HNN.out; omega) (by have := HI.out; omega) hA6.iz hK6.bz (by omega))
      have H6 := hid (And.intro hR6 (And.intro hW6 (And.intro hS6.1 hpd.2.2.2)))
      clear hpd hW6 hJ6 hR6 hb16 hA6 hK6 hz6 hq6 hB6 hS6 HPD
      go_wp2_with fail
      refine HWR.out.mono ?_
      rintro e w7 ⟨vv, X', s', sq', off', rfl, hJ7, hq7, hB7, hK7⟩
      have h6 := H6.out
      have HZ : Hid (Ja b1 w7 j p n X' s' sq' off' ∧ sq' ≤ i + 1 ∧ Rj w7 (r + 1) r (zeros nb) 0 ∧ w7.heap[ab]? = some (.cells #[.slice v.sa v.sn v.sc, .int .i64 v.cut, .slice v.ta v.tn v.tc, .slice v.ga v.gn v.gc] 59 (0, 0)) ∧ Below ab W w7) := hid ⟨hJ7, by omega, hK7.rj h6.1, hK7.block _ _ _ _ h6.2.2.1 (by decide) (by decide) (by decide), h6.2.1.trans (hB7.mono (Nat.le_of_lt HB1L.out))⟩
      clear h6 hJ7 hq7 hB7 hK7 H6 HWR
      go_wp2_with fail
      exact ⟨⟨i + 1, _, _, _, _, HI.out.1, HI.out.2, rfl, HZ.out⟩, by have := HI.out; simp [intOf]; omega⟩
    · have hIz : Iz wo (.slice v.ta v.tn v.tc) v.zs := HV.out.2.2.2.2.1.below (by rw [hab]; exact hWo)
      have HCR := hid (crash_d (cp := v.tc) hJ.disk (hIz.ints HV.out.2.2.2.2.2.1) HV.out.2.2.2.2.2.2)
      have HJ := hid hJ
      have HWO := hid hWo
      have HLT := hid hlt
      clear hJ hsq hR hL hWo hIz hi1 hi2 hlt
      by_cases hN : i < v.sn
      · have hb1 : (i : Int) < (v.sn : Int) := by omega
        have hb2 : ¬ (i : Int) < 25 := by have := HLT.out; omega
        clear hN hwi
        go_wp2_with fail
        refine HCR.out.mono ?_
        rintro e w5 ⟨p2, X2, rfl, hD5, hX5, hB5⟩
        have hab2 : ab ≤ wo.heap.size := Nat.le_trans HW0.out HWO.out.size
        have hW5 : Below ab W w5 := HWO.out.trans (hB5.mono hab2)
        have hcrX : 0 ∉ X2 := fun hm => by have h1 := hX5 _ hm; have h2 := HTL.out; omega
        have hscn : (s.cr v.zs).n = n := HJ.out.sn
        have HFM := hid (format_rest hD5 (HT.out.belowB hW5 HTL.out) rfl (by rw [hscn]; exact HNN.out.1) rfl (by rw [hscn, hnb]; have := HNB2.out; show (0 : Int) + _ ≤ _; omega) hcrX)
        have H5 := hid (And.intro hW5 (And.intro hX5 (And.intro hab2 (And.intro hscn (show wo.heap.size ≤ w5.heap.size from hB5.size)))))
        clear hD5 hX5 hB5 hab2 hW5 hcrX hscn HCR hl0 hl2
        go_wp2_with fail
        refine HFM.out.mono ?_
        rintro e w6 ⟨rfl, s6, X6, hD6, hT6, hS6, hn6, hc6, ho6, hX6, hF6⟩
        have h5 := H5.out
        rw [h5.2.2.2.1] at hn6 ho6 hS6
        rw [hnb] at ho6 hS6
        have hX6' : ∀ k ∈ X6, wo.heap.size ≤ k := fun k hk => (hX6 k hk).elim (h5.2.1 k) (Nat.le_trans h5.2.2.2.2)
        have hW6 : Below ab W w6 := h5.1.trans (hF6.below (Nat.le_trans HW0.out h5.1.size) (fun k hk => Nat.le_trans h5.2.2.1 (h5.2.1 k hk)))
        have hcr6 : 0 ∉ X6 := fun hm => by have h1 := hX6' _ hm; have h2 := HTL.out; omega
        have HO := hid (open_first hD6 hT6 hS6 hcr6)
        have H6 := hid (And.intro hW6 (And.intro hX6' (And.intro h5.2.2.1 (And.intro hn6 (And.intro hc6 (And.intro ho6 (Nat.le_trans h5.2.2.2.2 hF6.size)))))))
        clear h5 hD6 hT6 hS6 hn6 hc6 ho6 hX6 hF6 hX6' hW6 hcr6 H5 HFM
        go_wp2_with fail
        refine HO.out.mono ?_
        rintro e w7 ⟨j2, X7, hj7, rfl, hJ7, hX7, hF7⟩
        have h6 := H6.out
        have hJs : Js wo.heap.size w7 j2 p2 X7 s6 0 0 (zeros nb) := ⟨hJ7, h6.2.2.2.2.1, fun k hk => (hX7 k hk).elim (h6.2.1 k) (Nat.le_trans h6.2.2.2.2.2.2), Nat.le_trans h6.2.2.2.2.2.2 hj7⟩
        have hW7 : Below ab W w7 := h6.1.trans (hF7.below (Nat.le_trans HW0.out h6.1.size) (fun k hk => Nat.le_trans h6.2.2.1 (h6.2.1 k hk)))
        have HRB := hid (refBegun_any n HNN.out.1 (by have := HNN.out; omega) w7)
        have H7 := hid (And.intro hJs (And.intro hW7 (And.intro h6.2.2.1 (And.intro h6.2.2.2.1 (And.intro h6.2.2.2.2.2.1 (Nat.le_trans h6.2.2.2.2.2.2 hF7.size))))))
        clear h6 hj7 hJ7 hX7 hF7 hJs hW7 H6 HO
        generalize wo.heap.size = b2 at *
        go_wp2_with fail
        refine HRB.out.mono ?_
        rintro e w8 ⟨r2, hr8, rfl, hR8, hB8⟩
        have h7 := H7.out
        rw [hnb] at hR8
        have hJ8 := h7.1.below hB8
        have hW8 : Below ab W w8 := h7.2.1.trans (hB8.mono (Nat.le_trans HW0.out h7.2.1.size))
        have hhas := lhas_any hJ8.jr hR8 rfl
        rw [decide_eq_true (And.intro rfl rfl)] at hhas
        have HHAS := hid hhas
        have H8 := hid (And.intro hJ8 (And.intro hR8 (And.intro hW8 (And.intro h7.2.2.2.1 (And.intro h7.2.2.2.2.1 (show ab ≤ r2 from Nat.le_trans (Nat.le_trans h7.2.2.1 h7.2.2.2.2.2) hr8))))))
        have HB2 := hid h7.2.2.1
        clear h7 hr8 hR8 hB8 hJ8 hW8 hhas H7 HRB
        go_wp2_with fail
        refine HHAS.out.mono ?_
        rintro e w9 ⟨rfl, hB9⟩
        have h8 := H8.out
        have H9 := hid (And.intro (h8.1.below hB9) (And.intro (h8.2.1.below hB9) (show Below ab W w9 from h8.2.2.1.trans (hB9.mono (Nat.le_trans HW0.out h8.2.2.1.size)))))
        have HRR := hid h8.2.2.2.2.2
        have HSN6 := hid (And.intro h8.2.2.2.1 h8.2.2.2.2.1)
        clear h8 hB9 H8 HHAS
        go_wp2_with fail
        go_loopw [21, 22, 23, 24, 25] (fun v21 _ _ _ _ wv => ∃ (i : Nat) (X : List Nat) (s : DS) (sq cnt : Nat) (bl : List (List UInt8)), i ≤ N ∧ i ≤ 20 ∧ v21 = .int .i64 i ∧ Js b2 wv j2 p2 X s sq cnt bl ∧ Rj wv (r2 + 1) r2 bl (sq : Nat) ∧ Below ab W wv ∧ s.n = n ∧ sq ≤ i ∧ s.ops ≤ ((2 * nb + 3 + 100 * i : Nat) : Int)) (fun v21 _ _ _ _ _ => N - (intOf v21).toNat)
        case atStart => exact ⟨0, X7, s6, 0, 0, _, Nat.zero_le _, Nat.zero_le _, rfl, H9.out.1, H9.out.2.1, H9.out.2.2, HSN6.out.1, Nat.le_refl _, by rw [HSN6.out.2]; show (0 : Int) + _ ≤ _; omega⟩
        case round =>
          clear H9 HSN6
          rename World => wq
          obtain ⟨i, X, s, sq, cnt, bl, hi1, hi2, rfl, hJ, hR, hWo, hsn, hsq, hops⟩ := hrel
          have hwi : IntKind.i64.wrap ((i : Int) + 1) = ((i + 1 : Nat) : Int) := by rw [IntWalk.i64_in _ ⟨by omega, by omega⟩]; omega
          have hbl : bl.length = nb := by rw [hJ.jr.sett.con.len, hsn, hnb]
          have hnb2 := HNB2.out
          by_cases hlt : i < N ∧ i < 20
          · have hb1 : (i : Int) < (N : Int) := by omega
            have hb2 : (i : Int) < 20 := by omega
            obtain ⟨o, ho⟩ : ∃ o, xs[i]? = some o := ⟨_, List.getElem?_eq_getElem (by have := HS.out.1; omega)⟩
            obtain ⟨bo, oo, rfl, hat⟩ := HS.out.at ho
            have HOF := hid (HF.out o (List.mem_of_getElem? ho))
            have HIN : Hid (i < N) := hid hlt.1
            have HI : Hid (i + 1 ≤ N ∧ i + 1 ≤ 20) := hid ⟨hlt.1, hlt.2⟩
            have hd : Below wq.heap.size wq wq.drew := (Below.refl _ _).drew
            have hWd : Below ab W wq.drew := hWo.trans (hd.mono (Nat.le_trans HW0.out hWo.size))
            obtain ⟨vr, hr, hor⟩ := hR
            obtain ⟨ar, cr, rfl⟩ : ∃ a cap, vr = .slice a nb cap := by
              rcases hor.2 with ⟨e, h0⟩ | ⟨g, cap, cur, e, _⟩
              · exact ⟨none, 0, by rw [e, ← hbl, h0]⟩
              · exact ⟨_, cap, by rw [e, hbl]⟩
            have HS24 : Hid (OpAt wq.drew bo (oo + i * 4) o ∧ wq.drew.heap[r2]? = some (.cells #[.slice ar nb cr, .int .i64 (sq : Nat)] 51 (0, 0)) ∧ Iz wq.drew o.va o.zs) := hid ⟨hat.below (by rw [hab]; exact hWd), below_at hd hr (heap_lt hr), HOF.out.1.below (by rw [hab]; exact hWd)⟩
            have HPD := hid (And.intro (hJ.below hd) (And.intro ((show Rj wq (r2 + 1) r2 bl (sq : Nat) from ⟨_, hr, hor⟩).below hd) hWd))
            have HOB := hid (And.intro hsn (And.intro hsq (And.intro hops hnb2)))
            clear hJ hsn hsq hops hWo hat ho hd hWd hr hor hi1 hi2 hlt hbl hnb2
            go_wp2_with fail
            refine z_open (S := fun w' => OpAt w' bo (oo + i * 4) o ∧ w'.heap[r2]? = some (.cells #[.slice ar nb cr, .int .i64 (sq : Nat)] 51 (0, 0)) ∧ Iz w' o.va o.zs) 13 (by kernel_rfl) (by kernel_rfl) (fun _ _ _ _ _ h => h) (L := #[false, false, false, false, false, false, false, false, false, false, false, false, false, false, false]) (by kernel_rfl) ?_
            intro Q' hns hP hN
            have hS := HS24.out
            refine z_pure (i := 0) (v := .slice (some ⟨bo, oo, none⟩) N cap) hns rfl rfl rfl (by kernel_rfl) (by kernel_rfl) hP (y_move rfl (by kernel_rfl) (by kernel_rfl)) (fun _ => hS) rfl (L' := #[true, false, false, false, false, false, false, false, false, false, false, false, false, false, false]) (by kernel_rfl) ?_
            refine z_pure (i := 1) (v := .int .i64 i) hns rfl rfl rfl (by kernel_rfl) (by kernel_rfl) hP (y_move rfl (by kernel_rfl) (by kernel_rfl)) (fun _ => hS) rfl (L' := #[true, true, false, false, false, false, false, false, false, false, false, false, false, false, false]) (by kernel_rfl) ?_
            refine z_pure (i := 2) (v := .pointer (some ⟨bo, oo + i * 4, none⟩)) hns rfl rfl rfl (by kernel_rfl) (by kernel_rfl) hP (y_index rfl (by kernel_rfl) (by kernel_rfl) (by kernel_rfl) (idxP bo oo N cap i HIN.out)) (fun _ => hS) rfl (L' := #[true, true, true, false, false, false, false, false, false, false, false, false, false, false, false]) (by kernel_rfl) ?_
            refine z_read (i := 3) (v := .agg #[.int .i64 o.kd, o.va, .int .u8 o.by_, .int .i64 o.raw]) hns rfl (by kernel_rfl) rfl rfl (by kernel_rfl) (by kernel_rfl) hP (y_load rfl (by kernel_rfl) (by kernel_rfl) (fun w' h => h.1.load)) rfl hS rfl (L' := #[true, true, true, true, false, false, false, false, false, false, false, false, false, false, false]) (by kernel_rfl) ?_
            refine z_pure (i := 4) (v := .pointer (some ⟨r2, 0, none⟩)) hns rfl rfl rfl (by kernel_rfl) (by kernel_rfl) hP (y_move rfl (by kernel_rfl) (by kernel_rfl)) (fun _ => hS) rfl (L' := #[true, true, true, true, true, false, false, false, false, false, false, false, false, false, false]) (by kernel_rfl) ?_
            refine z_pure (i := 5) (v := .pointer (some ⟨r2, 0, none⟩)) hns rfl rfl rfl (by kernel_rfl) (by kernel_rfl) hP (y_nil rfl (by kernel_rfl) (by kernel_rfl)) (fun _ => hS) rfl (L' := #[true, true, true, true, true, true, false, false, false, false, false, false, false, false, false]) (by kernel_rfl) ?_
            refine z_pure (i := 6) (v := .pointer (some ⟨r2, 0, none⟩)) hns rfl rfl rfl (by kernel_rfl) (by kernel_rfl) hP (y_faddr rfl (by kernel_rfl) (by kernel_rfl) (fa51_0 (r2))) (fun _ => hS) rfl (L' := #[true, true, true, true, true, true, true, false, false, false, false, false, false, false, false]) (by kernel_rfl) ?_
            simp only [List.setIfInBounds_toArray, List.set_cons_zero, List.set_cons_succ]
            refine z_read (i := 7) (v := .slice ar nb cr) hns rfl (by kernel_rfl) rfl rfl (by kernel_rfl) (by kernel_rfl) hP (y_load rfl (by kernel_rfl) (by kernel_rfl) (fun w' h => load1 Tryd.isAgg49 (cell_at h.2.1 0 rfl))) rfl hS rfl (L' := #[true, true, true, true, true, true, true, true, false, false, false, false, false, false, false]) (by kernel_rfl) ?_
            refine z_pure (i := 8) (v := .int .i64 (nb : Nat)) hns rfl rfl rfl (by kernel_rfl) (by kernel_rfl) hP (y_lenT len49 (p := ar) (c := cr) rfl (by kernel_rfl) (by kernel_rfl)) (fun _ => hS) rfl (L' := #[true, true, true, true, true, true, true, true, true, false, false, false, false, false, false]) (by kernel_rfl) ?_
            refine z_call (i := 9) (f := 22) (args := #[.agg #[.int .i64 o.kd, o.va, .int .u8 o.by_, .int .i64 o.raw], .int .i64 nb]) (by kernel_rfl) rfl rfl (by kernel_rfl) (enter_go rfl (by kernel_rfl) (fun w => by go_simp)) (L' := #[true, true, true, true, true, true, true, true, true, true, false, false, false, false, false]) (by kernel_rfl) ?_
            refine (blocks_any nb HNB.out.1 HNB.out.2 hS.2.2 HOF.out.2.1 HOF.out.2.2.1 HOF.out.2.2.2.1 HOF.out.2.2.2.2.1).mono ?_
            rintro e w6 ⟨v1, v2, zs, qs, rfl, hA6, hK6, hz6, hq6, _, hB6⟩
            have hS6 : _ ∧ _ ∧ _ := And.intro (hS.1.below hB6) (And.intro (below_at hB6 hS.2.1 (heap_lt hS.2.1)) (hS.2.2.below hB6))
            refine ⟨_, rfl, hS6, ?_⟩
            refine z_pure (i := 10) (v := .tuple #[v1, v2]) hns rfl rfl rfl (by kernel_rfl) (by kernel_rfl) hP (y_move rfl (by kernel_rfl) (by kernel_rfl)) (fun _ => hS6) rfl (L' := #[true, true, true, true, true, true, true, true, true, true, true, false, false, false, false]) (by kernel_rfl) ?_
            refine z_pure (i := 11) (v := v1) hns rfl rfl rfl (by kernel_rfl) (by kernel_rfl) hP (y_ext rfl (by kernel_rfl) (by kernel_rfl) (ext2_0 v1 v2)) (fun _ => hS6) rfl (L' := #[true, true, true, true, true, true, true, true, true, true, true, true, false, false, false]) (by kernel_rfl) ?_
            refine z_pure (i := 12) (v := v2) hns rfl rfl rfl (by kernel_rfl) (by kernel_rfl) hP (y_ext rfl (by kernel_rfl) (by kernel_rfl) (ext2_1 v1 v2)) (fun _ => hS6) rfl (L' := #[true, true, true, true, true, true, true, true, true, true, true, true, true, false, false]) (by kernel_rfl) ?_
            refine z_val (i := 13) (v := v1) (by kernel_rfl) rfl rfl (by kernel_rfl) (run_asg rfl (by kernel_rfl)) hS6 rfl (L' := #[true, true, true, true, true, true, true, true, true, true, true, true, true, true, false]) (by kernel_rfl) ?_
            refine z_pure (i := 14) (v := v2) hns rfl rfl rfl (by kernel_rfl) (by kernel_rfl) hP (y_assign rfl (by kernel_rfl) (by kernel_rfl)) (fun _ => hS6) rfl (L' := #[true, true, true, true, true, true, true, true, true, true, true, true, true, true, true]) (by kernel_rfl) ?_
            try simp only [List.setIfInBounds_toArray, List.set_cons_zero, List.set_cons_succ]
            refine z_done (by kernel_rfl) ?_ _
            refine hN _ _ ?_
            clear hP hN hns
            clear hS HS24 hS6
            have hpd := HPD.out
            have hob := HOB.out
            have hW6 : Below ab W w6 := hpd.2.2.trans (hB6.mono (Nat.le_trans HW0.out hpd.2.2.size))
            have hJ6 := hpd.1.below hB6
            have hR6 := hpd.2.1.below hB6
            have hb16 : b2 ≤ w6.heap.size := by have := hJ6.lt j2 (by simp); have := hJ6.jlo; omega
            have hnbs : nbOf s.n = nb := by rw [hob.1, hnb]
            have HWR := hid (hJ6.wr hb16 (by have := HI.out; omega) hA6.iz hK6.bz (by omega) (by rw [hnbs]; have := HI.out; omega))
            have H6 := hid (And.intro hR6 (And.intro hA6 (And.intro hK6 hW6)))
            have HZL := hid (And.intro hz6 hq6)
            clear hpd hob hW6 hJ6 hR6 hb16 hnbs hA6 hK6 hz6 hq6 hB6 HPD
            go_wp2_with fail
            refine HWR.out.mono ?_
            rintro e w7a ⟨rfl, s', X', cnt', hJ7, hn7, ho7, ho7', _, _, _, hB7, hK7⟩
            have h6 := H6.out
            have hob := HOB.out
            have hW7 : Below ab W w7a := h6.2.2.2.trans (hB7.mono HB2.out)
            have hR7 := hK7.rj h6.1
            have hA7 := hK7.ats h6.2.1
            have hQ7 := hK7.bks h6.2.2.1
            have HRW := hid (hR7.wr (Nat.lt_succ_self r2) hA7 hQ7 (by have := HZL.out; omega) (by have := HI.out; omega))
            obtain ⟨vb7, hr7, _⟩ := hR7
            have H7 := hid (show Js b2 w7a j2 p2 X' s' (refW sq bl zs (qs.map ql)).1 cnt' (refW sq bl zs (qs.map ql)).2 ∧ Below ab W w7a ∧ w7a.heap[r2]? = some (.cells #[vb7, .int .i64 (sq : Nat)] 51 (0, 0)) from ⟨hJ7, hW7, hr7⟩)
            have HS7 : Hid (s'.n = n ∧ s'.ops ≤ ((2 * nb + 3 + 100 * (i + 1) : Nat) : Int) ∧ (refW sq bl zs (qs.map ql)).1 ≤ i + 1) := hid ⟨hn7.trans hob.1, by have := HZL.out; omega, by have := (refW_seq sq bl zs (qs.map ql)).2; omega⟩
            clear h6 hob hW7 hA7 hQ7 hJ7 hn7 ho7 ho7' hB7 hK7 HWR H6 hr7
            go_wp2_with fail
            refine HRW.out.mono ?_
            rintro e w8a ⟨rfl, hR8, hfr⟩
            have h7 := H7.out
            have h8 : Js b2 w8a j2 p2 X' s' (refW sq bl zs (qs.map ql)).1 cnt' (refW sq bl zs (qs.map ql)).2 ∧ Below ab W w8a := by
              rcases hfr with hB | ⟨g, cg, hg, hbg, hF⟩
              · exact ⟨h7.1.below hB, h7.2.1.trans (hB.mono (Nat.le_trans HW0.out h7.2.1.size))⟩
              · have hW8 : Below ab W w8a := h7.2.1.trans (hF.below (Nat.le_trans HW0.out h7.2.1.size) (fun x hx => by
                  have h1 := HRR.out
                  simp only [List.mem_cons, List.not_mem_nil, or_false] at hx
                  rcases hx with rfl | rfl <;> omega))
                refine ⟨h7.1.fr hF (fun k hk hm => ?_) (HT.out.belowB hW8 HTL.out), hW8⟩
                simp only [List.mem_cons, List.not_mem_nil, or_false] at hm
                rcases hm with rfl | rfl
                · exact h7.1.not h7.2.2 (by decide) (by decide) (by decide) hk
                · exact h7.1.not hg (by decide) (by decide) (by decide) hk
            have HZ := hid (And.intro h8.1 (And.intro hR8 (And.intro h8.2 (And.intro HS7.out.1 (And.intro HS7.out.2.2 HS7.out.2.1)))))
            generalize refE bl zs (qs.map ql) = E at *
            have hEE : (E != E) = false := by simp
            clear h7 h8 hR8 hfr H7 HRW HS7
            go_wp2_with fail
            exact ⟨⟨i + 1, _, _, _, _, _, HI.out.1, HI.out.2, rfl, HZ.out⟩, by have := HI.out; simp [intOf]; omega⟩
          · have HCR := hid (crash_d (a := none) (len := 0) (cp := 0) (zs := []) hJ.jr.disk ⟨rfl, fun h => absurd rfl h⟩ (by decide))
            have hst := hJ.jr.sett
            have hnow : (s.cr []).now = s.now := by
              show crashed s.kept s.loose [] = s.now
              rw [← hst.same]
              unfold crashed sorted
              simp
            have HC := hid (And.intro hnow (And.intro hst (And.intro hR (And.intro hWo hsn))))
            have HLT := hid hlt
            clear hJ hsn hsq hops hR hWo hi1 hi2 hlt hbl hst hnow hnb2
            by_cases hN : i < N
            · have hb1 : (i : Int) < (N : Int) := by omega
              have hb2 : ¬ (i : Int) < 20 := by have := HLT.out; omega
              clear hN hwi
              go_wp2_with fail
              refine HCR.out.mono ?_
              rintro e wa ⟨p3, X3, rfl, hDa, hXa, hBa⟩
              have hcc := HC.out
              have habq : ab ≤ wq.heap.size := Nat.le_trans HW0.out hcc.2.2.2.1.size
              have hWa : Below ab W wa := hcc.2.2.2.1.trans (hBa.mono habq)
              have hcra : 0 ∉ X3 := fun hm => by have h1 := hXa _ hm; have h2 := HTL.out; omega
              have hcon : Con (s.cr []).now (nbOf (s.cr []).n) sq cnt bl := by rw [hcc.1]; exact hcc.2.1.con
              have HO3 := hid (open_rest hDa (HT.out.belowB hWa HTL.out) rfl (show 32 ≤ (s.cr []).n from hcc.2.1.n32) rfl rfl rfl hcon (by rw [show nbOf (s.cr []).n = nb from by show nbOf s.n = nb; rw [hcc.2.2.2.2, hnb]]; have := HNB2.out; show (0 : Int) + _ ≤ _; omega) hcra)
              have HRa := hid (hcc.2.2.1.below hBa)
              have HWa := hid hWa
              have HXA := hid (And.intro hXa habq)
              have HDA := hid hDa
              clear hcc habq hWa hcra hcon hDa hXa hBa HCR
              go_wp2_with fail
              refine HO3.out.mono ?_
              rintro e wb ⟨j3, s3, X4, hj3, rfl, hJ3, hn3, hc3, _, _, hX3, hF3⟩
              have hWb : Below ab W wb := HWa.out.trans (hF3.below (Nat.le_trans HW0.out HWa.out.size) (fun k hk => Nat.le_trans HXA.out.2 (HXA.out.1 k hk)))
              have hRb := (Kp.of_frX HDA.out hF3).rj HRa.out
              have hhas := lhas_any hJ3 hRb rfl
              rw [decide_eq_true (And.intro rfl rfl)] at hhas
              have HHAS := hid hhas
              have HWB := hid hWb
              clear hj3 hJ3 hn3 hc3 hX3 hF3 hRb hhas hWb HO3
              go_wp2_with fail
              refine HHAS.out.mono ?_
              rintro e wc ⟨rfl, hBc⟩
              have HWC : Hid (Below ab W wc) := hid (HWB.out.trans (hBc.mono (Nat.le_trans HW0.out HWB.out.size)))
              clear hBc HHAS
              go_wp2
              go_ret
              exact ⟨rfl, by rw [hab]; exact HWC.out⟩
            · have hb1 : ¬ (i : Int) < (N : Int) := by omega
              clear hN hwi
              go_wp2_with fail
              refine HCR.out.mono ?_
              rintro e wa ⟨p3, X3, rfl, hDa, hXa, hBa⟩
              have hcc := HC.out
              have habq : ab ≤ wq.heap.size := Nat.le_trans HW0.out hcc.2.2.2.1.size
              have hWa : Below ab W wa := hcc.2.2.2.1.trans (hBa.mono habq)
              have hcra : 0 ∉ X3 := fun hm => by have h1 := hXa _ hm; have h2 := HTL.out; omega
              have hcon : Con (s.cr []).now (nbOf (s.cr []).n) sq cnt bl := by rw [hcc.1]; exact hcc.2.1.con
              have HO3 := hid (open_rest hDa (HT.out.belowB hWa HTL.out) rfl (show 32 ≤ (s.cr []).n from hcc.2.1.n32) rfl rfl rfl hcon (by rw [show nbOf (s.cr []).n = nb from by show nbOf s.n = nb; rw [hcc.2.2.2.2, hnb]]; have := HNB2.out; show (0 : Int) + _ ≤ _; omega) hcra)
              have HRa := hid (hcc.2.2.1.below hBa)
              have HWa := hid hWa
              have HXA := hid (And.intro hXa habq)
              have HDA := hid hDa
              clear hcc habq hWa hcra hcon hDa hXa hBa HCR
              go_wp2_with fail
              refine HO3.out.mono ?_
              rintro e wb ⟨j3, s3, X4, hj3, rfl, hJ3, hn3, hc3, _, _, hX3, hF3⟩
              have hWb : Below ab W wb := HWa.out.trans (hF3.below (Nat.le_trans HW0.out HWa.out.size) (fun k hk => Nat.le_trans HXA.out.2 (HXA.out.1 k hk)))
              have hRb := (Kp.of_frX HDA.out hF3).rj HRa.out
              have hhas := lhas_any hJ3 hRb rfl
              rw [decide_eq_true (And.intro rfl rfl)] at hhas
              have HHAS := hid hhas
              have HWB := hid hWb
              clear hj3 hJ3 hn3 hc3 hX3 hF3 hRb hhas hWb HO3
              go_wp2_with fail
              refine HHAS.out.mono ?_
              rintro e wc ⟨rfl, hBc⟩
              have HWC : Hid (Below ab W wc) := hid (HWB.out.trans (hBc.mono (Nat.le_trans HW0.out HWB.out.size)))
              clear hBc HHAS
              go_wp2
              go_ret
              exact ⟨rfl, by rw [hab]; exact HWC.out⟩
      · have hb1 : ¬ (i : Int) < (v.sn : Int) := by omega
        clear hN hwi
        go_wp2_with fail
        refine HCR.out.mono ?_
        rintro e w5 ⟨p2, X2, rfl, hD5, hX5, hB5⟩
        have hab2 : ab ≤ wo.heap.size := Nat.le_trans HW0.out HWO.out.size
        have hW5 : Below ab W w5 := HWO.out.trans (hB5.mono hab2)
        have hcrX : 0 ∉ X2 := fun hm => by have h1 := hX5 _ hm; have h2 := HTL.out; omega
        have hscn : (s.cr v.zs).n = n := HJ.out.sn
        have HFM := hid (format_rest hD5 (HT.out.belowB hW5 HTL.out) rfl (by rw [hscn]; exact HNN.out.1) rfl (by rw [hscn, hnb]; have := HNB2.out; show (0 : Int) + _ ≤ _; omega) hcrX)
        have H5 := hid (And.intro hW5 (And.intro hX5 (And.intro hab2 (And.intro hscn (show wo.heap.size ≤ w5.heap.size from hB5.size)))))
        clear hD5 hX5 hB5 hab2 hW5 hcrX hscn HCR hl0 hl2
        go_wp2_with fail
        refine HFM.out.mono ?_
        rintro e w6 ⟨rfl, s6, X6, hD6, hT6, hS6, hn6, hc6, ho6, hX6, hF6⟩
        have h5 := H5.out
        rw [h5.2.2.2.1] at hn6 ho6 hS6
        rw [hnb] at ho6 hS6
        have hX6' : ∀ k ∈ X6, wo.heap.size ≤ k := fun k hk => (hX6 k hk).elim (h5.2.1 k) (Nat.le_trans h5.2.2.2.2)
        have hW6 : Below ab W w6 := h5.1.trans (hF6.below (Nat.le_trans HW0.out h5.1.size) (fun k hk => Nat.le_trans h5.2.2.1 (h5.2.1 k hk)))
        have hcr6 : 0 ∉ X6 := fun hm => by have h1 := hX6' _ hm; have h2 := HTL.out; omega
        have HO := hid (open_first hD6 hT6 hS6 hcr6)
        have H6 := hid (And.intro hW6 (And.intro hX6' (And.intro h5.2.2.1 (And.intro hn6 (And.intro hc6 (And.intro ho6 (Nat.le_trans h5.2.2.2.2 hF6.size)))))))
        clear h5 hD6 hT6 hS6 hn6 hc6 ho6 hX6 hF6 hX6' hW6 hcr6 H5 HFM
        go_wp2_with fail
        refine HO.out.mono ?_
        rintro e w7 ⟨j2, X7, hj7, rfl, hJ7, hX7, hF7⟩
        have h6 := H6.out
        have hJs : Js wo.heap.size w7 j2 p2 X7 s6 0 0 (zeros nb) := ⟨hJ7, h6.2.2.2.2.1, fun k hk => (hX7 k hk).elim (h6.2.1 k) (Nat.le_trans h6.2.2.2.2.2.2), Nat.le_trans h6.2.2.2.2.2.2 hj7⟩
        have hW7 : Below ab W w7 := h6.1.trans (hF7.below (Nat.le_trans HW0.out h6.1.size) (fun k hk => Nat.le_trans h6.2.2.1 (h6.2.1 k hk)))
        have HRB := hid (refBegun_any n HNN.out.1 (by have := HNN.out; omega) w7)
        have H7 := hid (And.intro hJs (And.intro hW7 (And.intro h6.2.2.1 (And.intro h6.2.2.2.1 (And.intro h6.2.2.2.2.2.1 (Nat.le_trans h6.2.2.2.2.2.2 hF7.size))))))
        clear h6 hj7 hJ7 hX7 hF7 hJs hW7 H6 HO
        generalize wo.heap.size = b2 at *
        go_wp2_with fail
        refine HRB.out.mono ?_
        rintro e w8 ⟨r2, hr8, rfl, hR8, hB8⟩
        have h7 := H7.out
        rw [hnb] at hR8
        have hJ8 := h7.1.below hB8
        have hW8 : Below ab W w8 := h7.2.1.trans (hB8.mono (Nat.le_trans HW0.out h7.2.1.size))
        have hhas := lhas_any hJ8.jr hR8 rfl
        rw [decide_eq_true (And.intro rfl rfl)] at hhas
        have HHAS := hid hhas
        have H8 := hid (And.intro hJ8 (And.intro hR8 (And.intro hW8 (And.intro h7.2.2.2.1 (And.intro h7.2.2.2.2.1 (show ab ≤ r2 from Nat.le_trans (Nat.le_trans h7.2.2.1 h7.2.2.2.2.2) hr8))))))
        have HB2 := hid h7.2.2.1
        clear h7 hr8 hR8 hB8 hJ8 hW8 hhas H7 HRB
        go_wp2_with fail
        refine HHAS.out.mono ?_
        rintro e w9 ⟨rfl, hB9⟩
        have h8 := H8.out
        have H9 := hid (And.intro (h8.1.below hB9) (And.intro (h8.2.1.below hB9) (show Below ab W w9 from h8.2.2.1.trans (hB9.mono (Nat.le_trans HW0.out h8.2.2.1.size)))))
        have HRR := hid h8.2.2.2.2.2
        have HSN6 := hid (And.intro h8.2.2.2.1 h8.2.2.2.2.1)
        clear h8 hB9 H8 HHAS
        go_wp2_with fail
        go_loopw [21, 22, 23, 24, 25] (fun v21 _ _ _ _ wv => ∃ (i : Nat) (X : List Nat) (s : DS) (sq cnt : Nat) (bl : List (List UInt8)), i ≤ N ∧ i ≤ 20 ∧ v21 = .int .i64 i ∧ Js b2 wv j2 p2 X s sq cnt bl ∧ Rj wv (r2 + 1) r2 bl (sq : Nat) ∧ Below ab W wv ∧ s.n = n ∧ sq ≤ i ∧ s.ops ≤ ((2 * nb + 3 + 100 * i : Nat) : Int)) (fun v21 _ _ _ _ _ => N - (intOf v21).toNat)
        case atStart => exact ⟨0, X7, s6, 0, 0, _, Nat.zero_le _, Nat.zero_le _, rfl, H9.out.1, H9.out.2.1, H9.out.2.2, HSN6.out.1, Nat.le_refl _, by rw [HSN6.out.2]; show (0 : Int) + _ ≤ _; omega⟩
        case round =>
          clear H9 HSN6
          rename World => wq
          obtain ⟨i, X, s, sq, cnt, bl, hi1, hi2, rfl, hJ, hR, hWo, hsn, hsq, hops⟩ := hrel
          have hwi : IntKind.i64.wrap ((i : Int) + 1) = ((i + 1 : Nat) : Int) := by rw [IntWalk.i64_in _ ⟨by omega, by omega⟩]; omega
          have hbl : bl.length = nb := by rw [hJ.jr.sett.con.len, hsn, hnb]
          have hnb2 := HNB2.out
          by_cases hlt : i < N ∧ i < 20
          · have hb1 : (i : Int) < (N : Int) := by omega
            have hb2 : (i : Int) < 20 := by omega
            obtain ⟨o, ho⟩ : ∃ o, xs[i]? = some o := ⟨_, List.getElem?_eq_getElem (by have := HS.out.1; omega)⟩
            obtain ⟨bo, oo, rfl, hat⟩ := HS.out.at ho
            have HOF := hid (HF.out o (List.mem_of_getElem? ho))
            have HIN : Hid (i < N) := hid hlt.1
            have HI : Hid (i + 1 ≤ N ∧ i + 1 ≤ 20) := hid ⟨hlt.1, hlt.2⟩
            have hd : Below wq.heap.size wq wq.drew := (Below.refl _ _).drew
            have hWd : Below ab W wq.drew := hWo.trans (hd.mono (Nat.le_trans HW0.out hWo.size))
            obtain ⟨vr, hr, hor⟩ := hR
            obtain ⟨ar, cr, rfl⟩ : ∃ a cap, vr = .slice a nb cap := by
              rcases hor.2 with ⟨e, h0⟩ | ⟨g, cap, cur, e, _⟩
              · exact ⟨none, 0, by rw [e, ← hbl, h0]⟩
              · exact ⟨_, cap, by rw [e, hbl]⟩
            have HS24 : Hid (OpAt wq.drew bo (oo + i * 4) o ∧ wq.drew.heap[r2]? = some (.cells #[.slice ar nb cr, .int .i64 (sq : Nat)] 51 (0, 0)) ∧ Iz wq.drew o.va o.zs) := hid ⟨hat.below (by rw [hab]; exact hWd), below_at hd hr (heap_lt hr), HOF.out.1.below (by rw [hab]; exact hWd)⟩
            have HPD := hid (And.intro (hJ.below hd) (And.intro ((show Rj wq (r2 + 1) r2 bl (sq : Nat) from ⟨_, hr, hor⟩).below hd) hWd))
            have HOB := hid (And.intro hsn (And.intro hsq (And.intro hops hnb2)))
            clear hJ hsn hsq hops hWo hat ho hd hWd hr hor hi1 hi2 hlt hbl hnb2
            go_wp2_with fail
            refine z_open (S := fun w' => OpAt w' bo (oo + i * 4) o ∧ w'.heap[r2]? = some (.cells #[.slice ar nb cr, .int .i64 (sq : Nat)] 51 (0, 0)) ∧ Iz w' o.va o.zs) 13 (by kernel_rfl) (by kernel_rfl) (fun _ _ _ _ _ h => h) (L := #[false, false, false, false, false, false, false, false, false, false, false, false, false, false, false]) (by kernel_rfl) ?_
            intro Q' hns hP hN
            have hS := HS24.out
            refine z_pure (i := 0) (v := .slice (some ⟨bo, oo, none⟩) N cap) hns rfl rfl rfl (by kernel_rfl) (by kernel_rfl) hP (y_move rfl (by kernel_rfl) (by kernel_rfl)) (fun _ => hS) rfl (L' := #[true, false, false, false, false, false, false, false, false, false, false, false, false, false, false]) (by kernel_rfl) ?_
            refine z_pure (i := 1) (v := .int .i64 i) hns rfl rfl rfl (by kernel_rfl) (by kernel_rfl) hP (y_move rfl (by kernel_rfl) (by kernel_rfl)) (fun _ => hS) rfl (L' := #[true, true, false, false, false, false, false, false, false, false, false, false, false, false, false]) (by kernel_rfl) ?_
            refine z_pure (i := 2) (v := .pointer (some ⟨bo, oo + i * 4, none⟩)) hns rfl rfl rfl (by kernel_rfl) (by kernel_rfl) hP (y_index rfl (by kernel_rfl) (by kernel_rfl) (by kernel_rfl) (idxP bo oo N cap i HIN.out)) (fun _ => hS) rfl (L' := #[true, true, true, false, false, false, false, false, false, false, false, false, false, false, false]) (by kernel_rfl) ?_
            refine z_read (i := 3) (v := .agg #[.int .i64 o.kd, o.va, .int .u8 o.by_, .int .i64 o.raw]) hns rfl (by kernel_rfl) rfl rfl (by kernel_rfl) (by kernel_rfl) hP (y_load rfl (by kernel_rfl) (by kernel_rfl) (fun w' h => h.1.load)) rfl hS rfl (L' := #[true, true, true, true, false, false, false, false, false, false, false, false, false, false, false]) (by kernel_rfl) ?_
            refine z_pure (i := 4) (v := .pointer (some ⟨r2, 0, none⟩)) hns rfl rfl rfl (by kernel_rfl) (by kernel_rfl) hP (y_move rfl (by kernel_rfl) (by kernel_rfl)) (fun _ => hS) rfl (L' := #[true, true, true, true, true, false, false, false, false, false, false, false, false, false, false]) (by kernel_rfl) ?_
            refine z_pure (i := 5) (v := .pointer (some ⟨r2, 0, none⟩)) hns rfl rfl rfl (by kernel_rfl) (by kernel_rfl) hP (y_nil rfl (by kernel_rfl) (by kernel_rfl)) (fun _ => hS) rfl (L' := #[true, true, true, true, true, true, false, false, false, false, false, false, false, false, false]) (by kernel_rfl) ?_
            refine z_pure (i := 6) (v := .pointer (some ⟨r2, 0, none⟩)) hns rfl rfl rfl (by kernel_rfl) (by kernel_rfl) hP (y_faddr rfl (by kernel_rfl) (by kernel_rfl) (fa51_0 (r2))) (fun _ => hS) rfl (L' := #[true, true, true, true, true, true, true, false, false, false, false, false, false, false, false]) (by kernel_rfl) ?_
            simp only [List.setIfInBounds_toArray, List.set_cons_zero, List.set_cons_succ]
            refine z_read (i := 7) (v := .slice ar nb cr) hns rfl (by kernel_rfl) rfl rfl (by kernel_rfl) (by kernel_rfl) hP (y_load rfl (by kernel_rfl) (by kernel_rfl) (fun w' h => load1 Tryd.isAgg49 (cell_at h.2.1 0 rfl))) rfl hS rfl (L' := #[true, true, true, true, true, true, true, true, false, false, false, false, false, false, false]) (by kernel_rfl) ?_
            refine z_pure (i := 8) (v := .int .i64 (nb : Nat)) hns rfl rfl rfl (by kernel_rfl) (by kernel_rfl) hP (y_lenT len49 (p := ar) (c := cr) rfl (by kernel_rfl) (by kernel_rfl)) (fun _ => hS) rfl (L' := #[true, true, true, true, true, true, true, true, true, false, false, false, false, false, false]) (by kernel_rfl) ?_
            refine z_call (i := 9) (f := 22) (args := #[.agg #[.int .i64 o.kd, o.va, .int .u8 o.by_, .int .i64 o.raw], .int .i64 nb]) (by kernel_rfl) rfl rfl (by kernel_rfl) (enter_go rfl (by kernel_rfl) (fun w => by go_simp)) (L' := #[true, true, true, true, true, true, true, true, true, true, false, false, false, false, false]) (by kernel_rfl) ?_
            refine (blocks_any nb HNB.out.1 HNB.out.2 hS.2.2 HOF.out.2.1 HOF.out.2.2.1 HOF.out.2.2.2.1 HOF.out.2.2.2.2.1).mono ?_
            rintro e w6 ⟨v1, v2, zs, qs, rfl, hA6, hK6, hz6, hq6, _, hB6⟩
            have hS6 : _ ∧ _ ∧ _ := And.intro (hS.1.below hB6) (And.intro (below_at hB6 hS.2.1 (heap_lt hS.2.1)) (hS.2.2.below hB6))
            refine ⟨_, rfl, hS6, ?_⟩
            refine z_pure (i := 10) (v := .tuple #[v1, v2]) hns rfl rfl rfl (by kernel_rfl) (by kernel_rfl) hP (y_move rfl (by kernel_rfl) (by kernel_rfl)) (fun _ => hS6) rfl (L' := #[true, true, true, true, true, true, true, true, true, true, true, false, false, false, false]) (by kernel_rfl) ?_
            refine z_pure (i := 11) (v := v1) hns rfl rfl rfl (by kernel_rfl) (by kernel_rfl) hP (y_ext rfl (by kernel_rfl) (by kernel_rfl) (ext2_0 v1 v2)) (fun _ => hS6) rfl (L' := #[true, true, true, true, true, true, true, true, true, true, true, true, false, false, false]) (by kernel_rfl) ?_
            refine z_pure (i := 12) (v := v2) hns rfl rfl rfl (by kernel_rfl) (by kernel_rfl) hP (y_ext rfl (by kernel_rfl) (by kernel_rfl) (ext2_1 v1 v2)) (fun _ => hS6) rfl (L' := #[true, true, true, true, true, true, true, true, true, true, true, true, true, false, false]) (by kernel_rfl) ?_
            refine z_val (i := 13) (v := v1) (by kernel_rfl) rfl rfl (by kernel_rfl) (run_asg rfl (by kernel_rfl)) hS6 rfl (L' := #[true, true, true, true, true, true, true, true, true, true, true, true, true, true, false]) (by kernel_rfl) ?_
            refine z_pure (i := 14) (v := v2) hns rfl rfl rfl (by kernel_rfl) (by kernel_rfl) hP (y_assign rfl (by kernel_rfl) (by kernel_rfl)) (fun _ => hS6) rfl (L' := #[true, true, true, true, true, true, true, true, true, true, true, true, true, true, true]) (by kernel_rfl) ?_
            try simp only [List.setIfInBounds_toArray, List.set_cons_zero, List.set_cons_succ]
            refine z_done (by kernel_rfl) ?_ _
            refine hN _ _ ?_
            clear hP hN hns
            clear hS HS24 hS6
            have hpd := HPD.out
            have hob := HOB.out
            have hW6 : Below ab W w6 := hpd.2.2.trans (hB6.mono (Nat.le_trans HW0.out hpd.2.2.size))
            have hJ6 := hpd.1.below hB6
            have hR6 := hpd.2.1.below hB6
            have hb16 : b2 ≤ w6.heap.size := by have := hJ6.lt j2 (by simp); have := hJ6.jlo; omega
            have hnbs : nbOf s.n = nb := by rw [hob.1, hnb]
            have HWR := hid (hJ6.wr hb16 (by have := HI.out; omega) hA6.iz hK6.bz (by omega) (by rw [hnbs]; have := HI.out; omega))
            have H6 := hid (And.intro hR6 (And.intro hA6 (And.intro hK6 hW6)))
            have HZL := hid (And.intro hz6 hq6)
            clear hpd hob hW6 hJ6 hR6 hb16 hnbs hA6 hK6 hz6 hq6 hB6 HPD
            go_wp2_with fail
            refine HWR.out.mono ?_
            rintro e w7a ⟨rfl, s', X', cnt', hJ7, hn7, ho7, ho7', _, _, _, hB7, hK7⟩
            have h6 := H6.out
            have hob := HOB.out
            have hW7 : Below ab W w7a := h6.2.2.2.trans (hB7.mono HB2.out)
            have hR7 := hK7.rj h6.1
            have hA7 := hK7.ats h6.2.1
            have hQ7 := hK7.bks h6.2.2.1
            have HRW := hid (hR7.wr (Nat.lt_succ_self r2) hA7 hQ7 (by have := HZL.out; omega) (by have := HI.out; omega))
            obtain ⟨vb7, hr7, _⟩ := hR7
            have H7 := hid (show Js b2 w7a j2 p2 X' s' (refW sq bl zs (qs.map ql)).1 cnt' (refW sq bl zs (qs.map ql)).2 ∧ Below ab W w7a ∧ w7a.heap[r2]? = some (.cells #[vb7, .int .i64 (sq : Nat)] 51 (0, 0)) from ⟨hJ7, hW7, hr7⟩)
            have HS7 : Hid (s'.n = n ∧ s'.ops ≤ ((2 * nb + 3 + 100 * (i + 1) : Nat) : Int) ∧ (refW sq bl zs (qs.map ql)).1 ≤ i + 1) := hid ⟨hn7.trans hob.1, by have := HZL.out; omega, by have := (refW_seq sq bl zs (qs.map ql)).2; omega⟩
            clear h6 hob hW7 hA7 hQ7 hJ7 hn7 ho7 ho7' hB7 hK7 HWR H6 hr7
            go_wp2_with fail
            refine HRW.out.mono ?_
            rintro e w8a ⟨rfl, hR8, hfr⟩
            have h7 := H7.out
            have h8 : Js b2 w8a j2 p2 X' s' (refW sq bl zs (qs.map ql)).1 cnt' (refW sq bl zs (qs.map ql)).2 ∧ Below ab W w8a := by
              rcases hfr with hB | ⟨g, cg, hg, hbg, hF⟩
              · exact ⟨h7.1.below hB, h7.2.1.trans (hB.mono (Nat.le_trans HW0.out h7.2.1.size))⟩
              · have hW8 : Below ab W w8a := h7.2.1.trans (hF.below (Nat.le_trans HW0.out h7.2.1.size) (fun x hx => by
                  have h1 := HRR.out
                  simp only [List.mem_cons, List.not_mem_nil, or_false] at hx
                  rcases hx with rfl | rfl <;> omega))
                refine ⟨h7.1.fr hF (fun k hk hm => ?_) (HT.out.belowB hW8 HTL.out), hW8⟩
                simp only [List.mem_cons, List.not_mem_nil, or_false] at hm
                rcases hm with rfl | rfl
                · exact h7.1.not h7.2.2 (by decide) (by decide) (by decide) hk
                · exact h7.1.not hg (by decide) (by decide) (by decide) hk
            have HZ := hid (And.intro h8.1 (And.intro hR8 (And.intro h8.2 (And.intro HS7.out.1 (And.intro HS7.out.2.2 HS7.out.2.1)))))
            generalize refE bl zs (qs.map ql) = E at *
            have hEE : (E != E) = false := by simp
            clear h7 h8 hR8 hfr H7 HRW HS7
            go_wp2_with fail
            exact ⟨⟨i + 1, _, _, _, _, _, HI.out.1, HI.out.2, rfl, HZ.out⟩, by have := HI.out; simp [intOf]; omega⟩
          · have HCR := hid (crash_d (a := none) (len := 0) (cp := 0) (zs := []) hJ.jr.disk ⟨rfl, fun h => absurd rfl h⟩ (by decide))
            have hst := hJ.jr.sett
            have hnow : (s.cr []).now = s.now := by
              show crashed s.kept s.loose [] = s.now
              rw [← hst.same]
              unfold crashed sorted
              simp
            have HC := hid (And.intro hnow (And.intro hst (And.intro hR (And.intro hWo hsn))))
            have HLT := hid hlt
            clear hJ hsn hsq hops hR hWo hi1 hi2 hlt hbl hst hnow hnb2
            by_cases hN : i < N
            · have hb1 : (i : Int) < (N : Int) := by omega
              have hb2 : ¬ (i : Int) < 20 := by have := HLT.out; omega
              clear hN hwi
              go_wp2_with fail
              refine HCR.out.mono ?_
              rintro e wa ⟨p3, X3, rfl, hDa, hXa, hBa⟩
              have hcc := HC.out
              have habq : ab ≤ wq.heap.size := Nat.le_trans HW0.out hcc.2.2.2.1.size
              have hWa : Below ab W wa := hcc.2.2.2.1.trans (hBa.mono habq)
              have hcra : 0 ∉ X3 := fun hm => by have h1 := hXa _ hm; have h2 := HTL.out; omega
              have hcon : Con (s.cr []).now (nbOf (s.cr []).n) sq cnt bl := by rw [hcc.1]; exact hcc.2.1.con
              have HO3 := hid (open_rest hDa (HT.out.belowB hWa HTL.out) rfl (show 32 ≤ (s.cr []).n from hcc.2.1.n32) rfl rfl rfl hcon (by rw [show nbOf (s.cr []).n = nb from by show nbOf s.n = nb; rw [hcc.2.2.2.2, hnb]]; have := HNB2.out; show (0 : Int) + _ ≤ _; omega) hcra)
              have HRa := hid (hcc.2.2.1.below hBa)
              have HWa := hid hWa
              have HXA := hid (And.intro hXa habq)
              have HDA := hid hDa
              clear hcc habq hWa hcra hcon hDa hXa hBa HCR
              go_wp2_with fail
              refine HO3.out.mono ?_
              rintro e wb ⟨j3, s3, X4, hj3, rfl, hJ3, hn3, hc3, _, _, hX3, hF3⟩
              have hWb : Below ab W wb := HWa.out.trans (hF3.below (Nat.le_trans HW0.out HWa.out.size) (fun k hk => Nat.le_trans HXA.out.2 (HXA.out.1 k hk)))
              have hRb := (Kp.of_frX HDA.out hF3).rj HRa.out
              have hhas := lhas_any hJ3 hRb rfl
              rw [decide_eq_true (And.intro rfl rfl)] at hhas
              have HHAS := hid hhas
              have HWB := hid hWb
              clear hj3 hJ3 hn3 hc3 hX3 hF3 hRb hhas hWb HO3
              go_wp2_with fail
              refine HHAS.out.mono ?_
              rintro e wc ⟨rfl, hBc⟩
              have HWC : Hid (Below ab W wc) := hid (HWB.out.trans (hBc.mono (Nat.le_trans HW0.out HWB.out.size)))
              clear hBc HHAS
              go_wp2
              go_ret
              exact ⟨rfl, by rw [hab]; exact HWC.out⟩
            · have hb1 : ¬ (i : Int) < (N : Int) := by omega
              clear hN hwi
              go_wp2_with fail
              refine HCR.out.mono ?_
              rintro e wa ⟨p3, X3, rfl, hDa, hXa, hBa⟩
              have hcc := HC.out
              have habq : ab ≤ wq.heap.size := Nat.le_trans HW0.out hcc.2.2.2.1.size
              have hWa : Below ab W wa := hcc.2.2.2.1.trans (hBa.mono habq)
              have hcra : 0 ∉ X3 := fun hm => by have h1 := hXa _ hm; have h2 := HTL.out; omega
              have hcon : Con (s.cr []).now (nbOf (s.cr []).n) sq cnt bl := by rw [hcc.1]; exact hcc.2.1.con
              have HO3 := hid (open_rest hDa (HT.out.belowB hWa HTL.out) rfl (show 32 ≤ (s.cr []).n from hcc.2.1.n32) rfl rfl rfl hcon (by rw [show nbOf (s.cr []).n = nb from by show nbOf s.n = nb; rw [hcc.2.2.2.2, hnb]]; have := HNB2.out; show (0 : Int) + _ ≤ _; omega) hcra)
              have HRa := hid (hcc.2.2.1.below hBa)
              have HWa := hid hWa
              have HXA := hid (And.intro hXa habq)
              have HDA := hid hDa
              clear hcc habq hWa hcra hcon hDa hXa hBa HCR
              go_wp2_with fail
              refine HO3.out.mono ?_
              rintro e wb ⟨j3, s3, X4, hj3, rfl, hJ3, hn3, hc3, _, _, hX3, hF3⟩
              have hWb : Below ab W wb := HWa.out.trans (hF3.below (Nat.le_trans HW0.out HWa.out.size) (fun k hk => Nat.le_trans HXA.out.2 (HXA.out.1 k hk)))
              have hRb := (Kp.of_frX HDA.out hF3).rj HRa.out
              have hhas := lhas_any hJ3 hRb rfl
              rw [decide_eq_true (And.intro rfl rfl)] at hhas
              have HHAS := hid hhas
              have HWB := hid hWb
              clear hj3 hJ3 hn3 hc3 hX3 hF3 hRb hhas hWb HO3
              go_wp2_with fail
              refine HHAS.out.mono ?_
              rintro e wc ⟨rfl, hBc⟩
              have HWC : Hid (Below ab W wc) := hid (HWB.out.trans (hBc.mono (Nat.le_trans HW0.out HWB.out.size)))
              clear hBc HHAS
              go_wp2
              go_ret
              exact ⟨rfl, by rw [hab]; exact HWC.out⟩
end Go.Proofs.YtdogjicccajnkaaDoor
