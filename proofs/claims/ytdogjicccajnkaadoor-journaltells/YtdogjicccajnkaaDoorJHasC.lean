/- The law's has: has a journal just those blocks, as many writes. -/
import Derived.Test.YtdogjicccajnkaaDoorJGh
namespace Go.Proofs.YtdogjicccajnkaaDoor
open Go Go.RowKit

theorem fa51_1 (b : Nat) (w : World) : (Instr.fieldAt 51 (.pointer (some ⟨b, 0, none⟩)) 1).run Tryd.prog w = .ok (.pointer (some ⟨b, 1, none⟩)) w := by go_simp
theorem neqL (a b : Int) (r : Bool) (h : (a != b) = r) (w : World) : (binOp .neq 2 (.int .i64 a) (.int .i64 b)).run Tryd.prog w = .ok (.bool r) w := by subst h; go_simp
theorem y_eqN {ops : Array Oper} {S : World → Prop} {o : Oper} {a : Act} {x y : Operand} {t t' : TypeId} {ad : Addr} (hop : o.op = .binOp .eql t x y t') (hw : Region.wanted o (yielded ops a.tmps) = true) (hx : a.eval x = .pointer (some ad)) (hy : a.eval y = .pointer none)
    (hr : ∀ w, (binOp .eql t (.pointer (some ad)) (.pointer none)).run Tryd.prog w = .ok (.bool false) w) : YieldsIf Tryd.prog ops S o (.bool false) a :=
  .inl ⟨hw, fun w _ => by
    unfold execOp; rw [hop]; simp only [hx, hy, Sem.run_bind]
    have : (eqGuard .eql t x y (.pointer (some ad)) (.pointer none)).run Tryd.prog w = .ok () w := by
      unfold eqGuard; go_simp
    rw [this]; simp only [Result.andThen_ok, hr w]; rfl⟩
set_option maxRecDepth 100000 in
set_option maxHeartbeats 8000000 in
theorem lhas_any {w : World} {j p : Nat} {X : List Nat} {s : DS} {sq cnt : Nat} {bl : List (List UInt8)} (h : Jr w j p X s sq cnt bl) {B r sq2 : Nat} {bl2 : List (List UInt8)} (hr : Rj w B r bl2 (sq2 : Nat)) (hl : bl2.length = bl.length) :
    Calls Tryd.prog 25 #[.pointer (some ⟨j, 0, none⟩), .pointer (some ⟨r, 0, none⟩)] w fun e w' => e = .returned (.bool (decide (sq = sq2 ∧ bl = bl2))) ∧ Below w.heap.size w w' := by
  obtain ⟨RR, hRR⟩ : ∃ RR, RR = decide (sq = sq2 ∧ bl = bl2) := ⟨_, rfl⟩
  rw [← hRR]
  have HRR := hid hRR
  have HJ := hid h
  have hbl := h.sett.con.len
  have hn32 := h.sett.n32
  obtain ⟨nb, hnb⟩ : ∃ nb, nb = nbOf s.n := ⟨_, rfl⟩
  have HNB : Hid (nb < 8192 ∧ 0 < nb) := hid ⟨by rw [hnb]; exact h.nb, by rw [hnb]; unfold nbOf; omega⟩
  have HBL : Hid (bl.length = nb ∧ bl2.length = nb) := hid ⟨by rw [hnb]; exact hbl, by rw [hl, hnb]; exact hbl⟩
  obtain ⟨vb, hr0, ho⟩ := hr
  obtain ⟨g2, c2, rfl⟩ : ∃ g cap, vb = .slice (some ⟨g, 0, none⟩) bl2.length cap := by
    rcases ho.2 with ⟨_, h0⟩ | ⟨g, cap, cur, rfl, _⟩
    · have := HBL.out; have := HNB.out; omega
    · exact ⟨g, cap, rfl⟩
  have HCE : Hid (∀ k b, bl2[k]? = some b → w.cell? ⟨g2, k, none⟩ = some (strV b)) := hid (fun k b hb => rj_cell ho hb)
  rw [HBL.out.2] at hr0
  have HR0 := hid hr0
  have HNN : Hid ((((nb : Nat) : Int) != ((nb : Nat) : Int)) = false) := hid (by simp)
  have hd : Below w.heap.size w w.drew := (Below.refl _ _).drew
  have hjn : Jn w j p nb (sq : Nat) 0 := by rw [hnb]; exact h.jn
  have HS1 : Hid (Jn w.drew j p nb (sq : Nat) 0 ∧ w.drew.heap[r]? = some (.cells #[.slice (some ⟨g2, 0, none⟩) nb c2, .int .i64 (sq2 : Nat)] 51 (0, 0))) := hid ⟨below_at hd hjn (heap_lt hjn), below_at hd hr0 (heap_lt hr0)⟩
  obtain ⟨bb, hbb⟩ : ∃ bb, (((sq : Nat) : Int) != ((sq2 : Nat) : Int)) = bb := ⟨_, rfl⟩
  have HBB := hid hbb
  clear hRR h hbl hn32 hnb hr0 ho hd hjn hbb hl
  go_enter Tryd.func25, Tryd.ntmps25
  go_wp2_with fail
  refine h_openL (S := fun w' => Jn w' j p nb (sq : Nat) 0 ∧ w'.heap[r]? = some (.cells #[.slice (some ⟨g2, 0, none⟩) nb c2, .int .i64 (sq2 : Nat)] 51 (0, 0))) (by kernel_rfl) (by kernel_rfl) (fun _ _ _ _ _ h => h) (L := #[false, false, false, false, false, false, false, false, false, false, false, false, false, false, false, false, false, false, false, false, false]) (by kernel_rfl) ?_
  intro Q' hns hP hN
  have hS := HS1.out
  refine h_takeL (i := 0) (v := .pointer (some ⟨j, 0, none⟩)) hns rfl rfl (by kernel_rfl) (by kernel_rfl) hP (y_move rfl (by kernel_rfl) (by kernel_rfl)) hS rfl (L' := #[true, false, false, false, false, false, false, false, false, false, false, false, false, false, false, false, false, false, false, false, false]) (by kernel_rfl) ?_
  refine h_takeL (i := 1) (v := .bool false) hns rfl rfl (by kernel_rfl) (by kernel_rfl) hP (y_eqN (ad := ⟨j, 0, none⟩) rfl (by kernel_rfl) (by kernel_rfl) (by kernel_rfl) (fun w => by go_simp)) hS rfl (L' := #[true, true, false, false, false, false, false, false, false, false, false, false, false, false, false, false, false, false, false, false, false]) (by kernel_rfl) ?_
  refine h_takeL (i := 2) (v := .bool false) hns rfl rfl (by kernel_rfl) (by kernel_rfl) hP (y_move rfl (by kernel_rfl) (by kernel_rfl)) hS rfl (L' := #[true, true, true, false, false, false, false, false, false, false, false, false, false, false, false, false, false, false, false, false, false]) (by kernel_rfl) ?_
  refine h_takeL (i := 3) (v := .pointer (some ⟨j, 0, none⟩)) hns rfl rfl (by kernel_rfl) (by kernel_rfl) hP (y_move rfl (by kernel_rfl) (by kernel_rfl)) hS rfl (L' := #[true, true, true, true, false, false, false, false, false, false, false, false, false, false, false, false, false, false, false, false, false]) (by kernel_rfl) ?_
  refine h_takeL (i := 5) (v := .pointer (some ⟨r, 0, none⟩)) hns rfl rfl (by kernel_rfl) (by kernel_rfl) hP (y_move rfl (by kernel_rfl) (by kernel_rfl)) hS rfl (L' := #[true, true, true, true, false, true, false, false, false, false, false, false, false, false, false, false, false, false, false, false, false]) (by kernel_rfl) ?_
  refine h_takeL (i := 6) (v := .pointer (some ⟨r, 0, none⟩)) hns rfl rfl (by kernel_rfl) (by kernel_rfl) hP (y_nil rfl (by kernel_rfl) (by kernel_rfl)) hS rfl (L' := #[true, true, true, true, false, true, true, false, false, false, false, false, false, false, false, false, false, false, false, false, false]) (by kernel_rfl) ?_
  refine h_takeL (i := 7) (v := .pointer (some ⟨r, 0, none⟩)) hns rfl rfl (by kernel_rfl) (by kernel_rfl) hP (y_faddr rfl (by kernel_rfl) (by kernel_rfl) (fa51_0 (r))) hS rfl (L' := #[true, true, true, true, false, true, true, true, false, false, false, false, false, false, false, false, false, false, false, false, false]) (by kernel_rfl) ?_
  simp only [List.setIfInBounds_toArray, List.set_cons_zero, List.set_cons_succ]
  refine h_takeL (i := 8) (v := .slice (some ⟨g2, 0, none⟩) nb c2) hns rfl rfl (by kernel_rfl) (by kernel_rfl) hP (y_load rfl (by kernel_rfl) (by kernel_rfl) (fun w' h => load1 Tryd.isAgg49 (cell_at h.2 0 rfl))) hS rfl (L' := #[true, true, true, true, false, true, true, true, true, false, false, false, false, false, false, false, false, false, false, false, false]) (by kernel_rfl) ?_
  refine h_takeL (i := 9) (v := .int .i64 (nb : Nat)) hns rfl rfl (by kernel_rfl) (by kernel_rfl) hP (y_lenT len49 (p := some ⟨g2, 0, none⟩) (c := c2) rfl (by kernel_rfl) (by kernel_rfl)) hS rfl (L' := #[true, true, true, true, false, true, true, true, true, true, false, false, false, false, false, false, false, false, false, false, false]) (by kernel_rfl) ?_
  refine h_callL (i := 4) (f := 16) (args := #[.pointer (some ⟨j, 0, none⟩)]) (by kernel_rfl) rfl rfl (by kernel_rfl) (enter_go rfl (by kernel_rfl) (fun w => by go_simp)) (L' := #[true, true, true, true, true, true, true, true, true, true, false, false, false, false, false, false, false, false, false, false, false]) (by kernel_rfl) ?_
  refine (jblocks_any hS.1).mono ?_
  rintro e wz ⟨rfl, hwz⟩
  obtain rfl := hwz.symm
  refine ⟨_, rfl, hS, ?_⟩
  refine h_takeL (i := 10) (v := .bool false) hns rfl rfl (by kernel_rfl) (by kernel_rfl) hP (y_bin (k := .i64) (k' := .i64) (m := (nb : Nat)) (n := (nb : Nat)) rfl (by kernel_rfl) (by kernel_rfl) (by kernel_rfl) (neqI _ _ _ HNN.out)) hS rfl (L' := #[true, true, true, true, true, true, true, true, true, true, true, false, false, false, false, false, false, false, false, false, false]) (by kernel_rfl) ?_
  refine h_takeL (i := 11) (v := .bool false) hns rfl rfl (by kernel_rfl) (by kernel_rfl) hP (y_pick (b := false) rfl (by kernel_rfl) (by kernel_rfl) (by kernel_rfl)) hS rfl (L' := #[true, true, true, true, true, true, true, true, true, true, true, true, false, false, false, false, false, false, false, false, false]) (by kernel_rfl) ?_
  refine h_takeL (i := 12) (v := .bool false) hns rfl rfl (by kernel_rfl) (by kernel_rfl) hP (y_move rfl (by kernel_rfl) (by kernel_rfl)) hS rfl (L' := #[true, true, true, true, true, true, true, true, true, true, true, true, true, false, false, false, false, false, false, false, false]) (by kernel_rfl) ?_
  refine h_takeL (i := 13) (v := .pointer (some ⟨j, 0, none⟩)) hns rfl rfl (by kernel_rfl) (by kernel_rfl) hP (y_move rfl (by kernel_rfl) (by kernel_rfl)) hS rfl (L' := #[true, true, true, true, true, true, true, true, true, true, true, true, true, true, false, false, false, false, false, false, false]) (by kernel_rfl) ?_
  refine h_takeL (i := 15) (v := .pointer (some ⟨r, 0, none⟩)) hns rfl rfl (by kernel_rfl) (by kernel_rfl) hP (y_move rfl (by kernel_rfl) (by kernel_rfl)) hS rfl (L' := #[true, true, true, true, true, true, true, true, true, true, true, true, true, true, false, true, false, false, false, false, false]) (by kernel_rfl) ?_
  simp only [List.setIfInBounds_toArray, List.set_cons_zero, List.set_cons_succ]
  refine h_takeL (i := 16) (v := .pointer (some ⟨r, 0, none⟩)) hns rfl rfl (by kernel_rfl) (by kernel_rfl) hP (y_nil rfl (by kernel_rfl) (by kernel_rfl)) hS rfl (L' := #[true, true, true, true, true, true, true, true, true, true, true, true, true, true, false, true, true, false, false, false, false]) (by kernel_rfl) ?_
  refine h_takeL (i := 17) (v := .pointer (some ⟨r, 1, none⟩)) hns rfl rfl (by kernel_rfl) (by kernel_rfl) hP (y_faddr rfl (by kernel_rfl) (by kernel_rfl) (fa51_1 (r))) hS rfl (L' := #[true, true, true, true, true, true, true, true, true, true, true, true, true, true, false, true, true, true, false, false, false]) (by kernel_rfl) ?_
  refine h_takeL (i := 18) (v := .int .i64 (sq2 : Nat)) hns rfl rfl (by kernel_rfl) (by kernel_rfl) hP (y_load rfl (by kernel_rfl) (by kernel_rfl) (fun w' h => load1 Tryd.isAgg2 (cell_at h.2 1 rfl))) hS rfl (L' := #[true, true, true, true, true, true, true, true, true, true, true, true, true, true, false, true, true, true, true, false, false]) (by kernel_rfl) ?_
  refine h_callL (i := 14) (f := 17) (args := #[.pointer (some ⟨j, 0, none⟩)]) (by kernel_rfl) rfl rfl (by kernel_rfl) (enter_go rfl (by kernel_rfl) (fun w => by go_simp)) (L' := #[true, true, true, true, true, true, true, true, true, true, true, true, true, true, true, true, true, true, true, false, false]) (by kernel_rfl) ?_
  refine (jseq_any hS.1).mono ?_
  rintro e wz ⟨rfl, hwz⟩
  obtain rfl := hwz.symm
  refine ⟨_, rfl, hS, ?_⟩
  refine h_takeL (i := 19) (v := .bool bb) hns rfl rfl (by kernel_rfl) (by kernel_rfl) hP (y_bin (k := .i64) (k' := .i64) (m := (sq : Nat)) (n := (sq2 : Nat)) rfl (by kernel_rfl) (by kernel_rfl) (by kernel_rfl) (neqL _ _ _ HBB.out)) hS rfl (L' := #[true, true, true, true, true, true, true, true, true, true, true, true, true, true, true, true, true, true, true, true, false]) (by kernel_rfl) ?_
  refine h_takeL (i := 20) (v := .bool bb) hns rfl rfl (by kernel_rfl) (by kernel_rfl) hP (y_pick (b := false) rfl (by kernel_rfl) (by kernel_rfl) (by kernel_rfl)) hS rfl (L' := #[true, true, true, true, true, true, true, true, true, true, true, true, true, true, true, true, true, true, true, true, true]) (by kernel_rfl) ?_
  simp only [List.setIfInBounds_toArray, List.set_cons_zero, List.set_cons_succ]
  refine wpAnyH_done (by kernel_rfl) ?_ _
  refine hN _ _ ?_
  clear hP hN hns
  clear hS HS1 HNN
  have HBR0 : Hid (Below w.heap.size w w.drew) := hid (Below.refl _ _).drew
  generalize w.drew = w0 at *
  cases bb with
  | true =>
    have hbad : RR = false := by
      rw [HRR.out]
      refine decide_eq_false (fun e => ?_)
      have h1 := HBB.out
      rw [e.1] at h1
      simp at h1
    subst hbad
    go_wp2
    go_ret
    exact ⟨rfl, HBR0.out⟩
  | false =>
    have HSQ : Hid (sq = sq2) := hid (by have h1 := HBB.out; simp at h1; omega)
    clear HBB
    go_wp2_with fail
    go_loopw [5, 6, 7] (fun v5 _ _ wr => ∃ k : Nat, k ≤ nb ∧ v5 = .int .i64 k ∧ bl.take k = bl2.take k ∧ Below w.heap.size w wr) (fun v5 _ _ _ => nb - (intOf v5).toNat)
    case atStart => exact ⟨0, Nat.zero_le _, rfl, rfl, HBR0.out⟩
    case round =>
    obtain ⟨k, hk, rfl, htk, hBk⟩ := hrel
    have hnb := HNB.out
    have hwk : IntKind.i64.wrap ((k : Int) + 1) = ((k + 1 : Nat) : Int) := by rw [IntWalk.i64_in _ ⟨by omega, by omega⟩]; omega
    have hr := below_at hBk HR0.out (heap_lt HR0.out)
    have hc0 : wr.cell? ⟨r, 0, none⟩ = some (.slice (some ⟨g2, 0, none⟩) nb c2) := cell_at hr 0 rfl
    by_cases hlt : k < nb
    · have hlt2 : (k : Int) < (nb : Int) := by omega
      obtain ⟨b, hb⟩ : ∃ b, bl[k]? = some b := ⟨_, List.getElem?_eq_getElem (by rw [HBL.out.1]; exact hlt)⟩
      obtain ⟨b2, hb2⟩ : ∃ b2, bl2[k]? = some b2 := ⟨_, List.getElem?_eq_getElem (by rw [HBL.out.2]; exact hlt)⟩
      have HRD := hid ((HJ.out.below hBk).readS hb)
      have hce := HCE.out k b2 hb2
      have hgl := World.block_lt_of_cell? w _ hce
      have HT : Hid (bl.take (k + 1) = bl2.take (k + 1) ↔ b = b2) := hid (by
        rw [List.take_add_one, List.take_add_one, hb, hb2, htk]
        simp)
      have HBT : Hid (RR = true → b = b2) := hid (fun e => by
        rw [HRR.out] at e
        have h1 := of_decide_eq_true e
        rw [h1.2, hb2] at hb
        exact (Option.some.inj hb).symm)
      have HKN := hid hlt
      have HBK := hid hBk
      have HRK := hid hr
      obtain ⟨bb, hbb⟩ : ∃ bb, decide (b ≠ b2) = bb := ⟨_, rfl⟩
      have HBB := hid hbb
      clear hr hb hb2 hBk htk hk hlt hbb
      go_wp2_with fail
      refine HRD.out.mono ?_
      rintro e wg ⟨hBg, g, f, hg, rfl, hf, hfl, hft, hsl⟩
      have hBg2 : Below w.heap.size w wg := HBK.out.trans (hBg.mono HBK.out.size)
      have hdr : Below wg.heap.size wg wg.drew := (Below.refl _ _).drew
      have hBd : Below w.heap.size w wg.drew := hBg2.trans (hdr.mono hBg2.size)
      have HS7 : Hid (wg.drew.heap[r]? = some (.cells #[.slice (some ⟨g2, 0, none⟩) nb c2, .int .i64 (sq2 : Nat)] 51 (0, 0)) ∧ wg.drew.cell? ⟨g2, k, none⟩ = some (strV b2) ∧ Sl wg.drew (.slice (some ⟨g, 0, none⟩) 112 112) b) := hid ⟨below_at hBd HR0.out (heap_lt HR0.out), by rw [hBd.cell (p := ⟨g2, k, none⟩) hgl]; exact hce, hsl.below hdr⟩
      have HBD := hid hBd
      clear hBg hg hf hfl hft hsl hBg2 hdr hBd hgl hce HRD hc0
      go_wp2_with fail
      refine h_openL (S := fun w' => w'.heap[r]? = some (.cells #[.slice (some ⟨g2, 0, none⟩) nb c2, .int .i64 (sq2 : Nat)] 51 (0, 0)) ∧ w'.cell? ⟨g2, k, none⟩ = some (strV b2) ∧ Sl w' (.slice (some ⟨g, 0, none⟩) 112 112) b) (by kernel_rfl) (by kernel_rfl) (fun _ _ _ _ _ h => h) (L := #[false, false, false, false, false, false, false, false, false, false, false, false, false, false]) (by kernel_rfl) ?_
      intro Q' hns hP hN
      have hS := HS7.out
      refine h_takeL (i := 0) (v := .int .i64 0) hns rfl rfl (by kernel_rfl) (by kernel_rfl) hP (y_move rfl (by kernel_rfl) (by kernel_rfl)) hS rfl (L' := #[true, false, false, false, false, false, false, false, false, false, false, false, false, false]) (by kernel_rfl) ?_
      refine h_takeL (i := 1) (v := .bool false) hns rfl rfl (by kernel_rfl) (by kernel_rfl) hP (y_bin (k := .i64) (k' := .i64) (m := 0) (n := 0) rfl (by kernel_rfl) (by kernel_rfl) (by kernel_rfl) (neqE _ _ _ rfl)) hS rfl (L' := #[true, true, false, false, false, false, false, false, false, false, false, false, false, false]) (by kernel_rfl) ?_
      refine h_takeL (i := 2) (v := .bool false) hns rfl rfl (by kernel_rfl) (by kernel_rfl) hP (y_move rfl (by kernel_rfl) (by kernel_rfl)) hS rfl (L' := #[true, true, true, false, false, false, false, false, false, false, false, false, false, false]) (by kernel_rfl) ?_
      refine h_takeL (i := 3) (v := .slice (some ⟨g, 0, none⟩) 112 112) hns rfl rfl (by kernel_rfl) (by kernel_rfl) hP (y_move rfl (by kernel_rfl) (by kernel_rfl)) hS rfl (L' := #[true, true, true, true, false, false, false, false, false, false, false, false, false, false]) (by kernel_rfl) ?_
      refine h_takeL (i := 4) (v := strV b) hns rfl rfl (by kernel_rfl) (by kernel_rfl) hP (y_convS rfl (by kernel_rfl) (by kernel_rfl) (fun w' h => conv_sl h.2.2)) hS rfl (L' := #[true, true, true, true, true, false, false, false, false, false, false, false, false, false]) (by kernel_rfl) ?_
      refine h_takeL (i := 5) (v := .pointer (some ⟨r, 0, none⟩)) hns rfl rfl (by kernel_rfl) (by kernel_rfl) hP (y_move rfl (by kernel_rfl) (by kernel_rfl)) hS rfl (L' := #[true, true, true, true, true, true, false, false, false, false, false, false, false, false]) (by kernel_rfl) ?_
      refine h_takeL (i := 6) (v := .pointer (some ⟨r, 0, none⟩)) hns rfl rfl (by kernel_rfl) (by kernel_rfl) hP (y_nil rfl (by kernel_rfl) (by kernel_rfl)) hS rfl (L' := #[true, true, true, true, true, true, true, false, false, false, false, false, false, false]) (by kernel_rfl) ?_
      simp only [List.setIfInBounds_toArray, List.set_cons_zero, List.set_cons_succ]
      refine h_takeL (i := 7) (v := .pointer (some ⟨r, 0, none⟩)) hns rfl rfl (by kernel_rfl) (by kernel_rfl) hP (y_faddr rfl (by kernel_rfl) (by kernel_rfl) (fa51_0 (r))) hS rfl (L' := #[true, true, true, true, true, true, true, true, false, false, false, false, false, false]) (by kernel_rfl) ?_
      refine h_takeL (i := 8) (v := .slice (some ⟨g2, 0, none⟩) nb c2) hns rfl rfl (by kernel_rfl) (by kernel_rfl) hP (y_load rfl (by kernel_rfl) (by kernel_rfl) (fun w' h => load1 Tryd.isAgg49 (cell_at h.1 0 rfl))) hS rfl (L' := #[true, true, true, true, true, true, true, true, true, false, false, false, false, false]) (by kernel_rfl) ?_
      refine h_takeL (i := 9) (v := .int .i64 k) hns rfl rfl (by kernel_rfl) (by kernel_rfl) hP (y_move rfl (by kernel_rfl) (by kernel_rfl)) hS rfl (L' := #[true, true, true, true, true, true, true, true, true, true, false, false, false, false]) (by kernel_rfl) ?_
      refine h_takeL (i := 10) (v := .pointer (some ⟨g2, k, none⟩)) hns rfl rfl (by kernel_rfl) (by kernel_rfl) hP (y_index rfl (by kernel_rfl) (by kernel_rfl) (by kernel_rfl) (idx49 g2 nb c2 k HKN.out)) hS rfl (L' := #[true, true, true, true, true, true, true, true, true, true, true, false, false, false]) (by kernel_rfl) ?_
      refine h_takeL (i := 11) (v := strV b2) hns rfl rfl (by kernel_rfl) (by kernel_rfl) hP (y_load rfl (by kernel_rfl) (by kernel_rfl) (fun w' h => load1 Tryd.isAgg9 h.2.1)) hS rfl (L' := #[true, true, true, true, true, true, true, true, true, true, true, true, false, false]) (by kernel_rfl) ?_
      refine h_takeL (i := 12) (v := .bool bb) hns rfl rfl (by kernel_rfl) (by kernel_rfl) hP (y_neqS (l := b) (m := b2) rfl (by kernel_rfl) (by kernel_rfl) (by kernel_rfl) HBB.out) hS rfl (L' := #[true, true, true, true, true, true, true, true, true, true, true, true, true, false]) (by kernel_rfl) ?_
      refine h_takeL (i := 13) (v := .bool bb) hns rfl rfl (by kernel_rfl) (by kernel_rfl) hP (y_pick (b := false) rfl (by kernel_rfl) (by kernel_rfl) (by kernel_rfl)) hS rfl (L' := #[true, true, true, true, true, true, true, true, true, true, true, true, true, true]) (by kernel_rfl) ?_
      simp only [List.setIfInBounds_toArray, List.set_cons_zero, List.set_cons_succ]
      refine wpAnyH_done (by kernel_rfl) ?_ _
      refine hN _ _ ?_
      clear hP hN hns
      clear hS HS7
      generalize strV b = sb at *
      generalize strV b2 = sb2 at *
      generalize wg.drew = wd at *
      cases bb with
      | true =>
        have hbad : RR = false := by
          cases hq : RR with
          | false => rfl
          | true =>
            have h1 := HBT.out hq
            have h2 := of_decide_eq_true HBB.out
            exact absurd h1 h2
        subst hbad
        go_wp2
        go_ret
        exact ⟨rfl, HBD.out⟩
      | false =>
        have HEQ : Hid (b = b2) := hid (by have h2 := of_decide_eq_false HBB.out; simpa using h2)
        go_wp2_with fail
        exact ⟨⟨k + 1, HKN.out, rfl, HT.out.2 HEQ.out, HBD.out⟩, by have := HKN.out; simp [intOf]; omega⟩
    · obtain rfl : k = nb := by omega
      have hlt2 : ¬ (k : Int) < (k : Int) := by omega
      have hgood : RR = true := by
        rw [HRR.out]
        refine decide_eq_true ⟨HSQ.out, ?_⟩
        rw [List.take_of_length_le (Nat.le_of_eq HBL.out.1), List.take_of_length_le (Nat.le_of_eq HBL.out.2)] at htk
        exact htk
      subst hgood
      have HBK := hid hBk
      clear hr hBk htk hk hlt
      go_wp2
      go_ret
      exact ⟨rfl, HBK.out⟩
end Go.Proofs.YtdogjicccajnkaaDoor
