/- The document's Flush. -/
import Derived.Test.YtkfomolglangdaaKRefWrite
namespace Go.Proofs.Ytkfomolglangdaa
open Go Go.RowKit

section
variable {ops : Array Oper} {S : World → Prop} {o : Oper} {a : Act}
theorem y_index {x y : Operand} {t : TypeId} {p k v : Value} (hop : o.op = .indexAddr t x y) (hw : Region.wanted o (yielded ops a.tmps) = true) (hx : a.eval x = p) (hy : a.eval y = k)
    (hr : ∀ w, (Instr.indexAt t p k).run Try.prog w = .ok v w) : YieldsIf Try.prog ops S o v a :=
  .inl ⟨hw, fun w _ => by unfold execOp; rw [hop]; simp only [hx, hy, Sem.run_bind, hr w, Result.andThen_ok]; rfl⟩
end
theorem idx60 (g n cap k : Nat) (h : k < n) (w : World) : (Instr.indexAt 60 (.slice (some ⟨g, 0, none⟩) n cap) (.int .i64 k)).run Try.prog w = .ok (.pointer (some ⟨g, k * 2, none⟩)) w := by
  have h1 : (k : Int) < n := by omega
  go_simp
theorem idx59 (g n cap k : Nat) (h : k < n) (w : World) : (Instr.indexAt 59 (.slice (some ⟨g, 0, none⟩) n cap) (.int .i64 k)).run Try.prog w = .ok (.pointer (some ⟨g, k, none⟩)) w := by
  have h1 : (k : Int) < n := by omega
  go_simp
theorem fa81_0 (b o : Nat) (w : World) : (Instr.fieldAt 81 (.pointer (some ⟨b, o, none⟩)) 0).run Try.prog w = .ok (.pointer (some ⟨b, o, none⟩)) w := by go_simp
theorem fa81_1 (b o : Nat) (w : World) : (Instr.fieldAt 81 (.pointer (some ⟨b, o, none⟩)) 1).run Try.prog w = .ok (.pointer (some ⟨b, o + 1, none⟩)) w := by go_simp
/-- A sector is put into its place. -/
theorem Sf.put {w : World} {B g n cap : Nat} {ss : List (List UInt8)} (h : Sf w B (.slice (some ⟨g, 0, none⟩) n cap) ss) (hn : ss.length = n) {i : Nat} (hi : i < n) {u : Value} {l : List UInt8} (hb : Bk w u l) :
    Sf (w.setCell ⟨g, i, none⟩ u) B (.slice (some ⟨g, 0, none⟩) n cap) (ss.set i l) ∧ B ≤ g ∧ (∃ c, w.heap[g]? = some (.cells c 35 (0, 0))) ∧ (∃ v, w.cell? ⟨g, i, none⟩ = some v) := by
  obtain ⟨V, h1, h2⟩ := h
  rcases h2.2 with ⟨e, _⟩ | ⟨g', cap', cur, e, hB, hg, hc, hm, hs, ht⟩
  · cases e
  cases e
  have hV := h2.1
  have hcur : i < cur.size := by omega
  have hF : Fr [g] w (w.setCell ⟨g, i, none⟩ u) := Fr.setCell _ _ _ _
  have hbk : ∀ v l, Bk w v l → Bk (w.setCell ⟨g, i, none⟩ u) v l := fun v l hb => hb.fr hF (fun g' c hg' hm => by
    obtain rfl : g' = g := by simpa using hm
    rw [hg] at hg'; cases hg')
  refine ⟨⟨V.set i u, fun j l' hj => ?_, by simp [hV], .inr ⟨g, cap, _, by rw [List.length_set], hB, heap_setCell hg i u, by rw [List.length_set]; exact hc, hm, by simpa using hs, ?_⟩⟩, hB, ⟨_, hg⟩, ⟨_, cell_at hg i (Array.getElem?_eq_getElem hcur)⟩⟩
  · by_cases e : i = j
    · subst e
      rw [List.getElem?_set_self (by omega)] at hj
      cases hj
      exact ⟨u, by rw [List.getElem?_set_self (by omega)], hbk _ _ hb⟩
    · rw [List.getElem?_set_ne e] at hj
      obtain ⟨u', hu', hb'⟩ := h1 j l' hj
      exact ⟨u', by rw [List.getElem?_set_ne e]; exact hu', hbk _ _ hb'⟩
  · rw [List.length_set, Array.toList_setIfInBounds, List.take_set, ht]
theorem Ls.nil (w : World) (B : Nat) : Ls w B (.slice none 0 0) [] := ⟨[], rfl, by simp, World.ownsRow_nil _ _ _ _⟩

section
variable {w : World} {r : Nat} {vs vl : Value} {ops cut : Int} {off : Bool}
set_option maxRecDepth 100000
set_option maxHeartbeats 1600000
theorem rflush_gone (h : Rc w r vs vl ops cut off) (hlo : (lost cut ops || off) = true) :
    Calls Try.prog 28 #[.pointer (some ⟨r, 0, none⟩)] w fun e w' => e = .returned (.int .i64 43) ∧ Rc w' r vs vl ops cut true ∧ Fr [r] w w' := by
  have H := hid (rbegins_any w r vs vl ops cut off h)
  rw [hlo, if_pos rfl] at H
  clear h hlo
  go_enter Try.func28, Try.ntmps28
  go_wp2_with fail
  refine H.out.mono ?_
  rintro e w1 ⟨rfl, hR, hF⟩
  go_wp2
  go_ret
  exact ⟨rfl, hR, hF⟩
theorem rflush_full (h : Rc w r vs vl ops cut off) (hlo : (lost cut ops || off) = false) (ho : 1048576 ≤ ops) :
    Calls Try.prog 28 #[.pointer (some ⟨r, 0, none⟩)] w fun e w' => e = .returned (.int .i64 44) ∧ Rc w' r vs vl ops cut false ∧ Fr [r] w w' := by
  have H := hid (rbegins_any w r _ vl ops cut off h)
  rw [hlo, if_neg (by decide)] at H
  clear h hlo
  have d3 : decide (1048576 ≤ ops) = true := decide_eq_true ho
  go_enter Try.func28, Try.ntmps28
  go_wp2_with fail
  refine H.out.mono ?_
  rintro e w1 ⟨rfl, hR, hF⟩
  have h2 := hR.c2
  have HR := hid hR
  clear hR
  go_wp2
  go_ret
  exact ⟨rfl, HR.out, hF⟩
theorem rflush_ok {B : Nat} {kept : List (List UInt8)} {L : List (Nat × List UInt8)} (h : Rc w r vs vl ops cut off) (hlo : (lost cut ops || off) = false) (hB : B ≤ r) (hS : Sf w B vs kept) (hL : Ls w B vl L) (hk0 : kept.length ≠ 0) (hat : ∀ x ∈ L, x.1 < kept.length) (ho0 : 0 ≤ ops) (ho : ops < 1048576) (hLn : L.length ≤ 1048576) :
    Calls Try.prog 28 #[.pointer (some ⟨r, 0, none⟩)] w fun e w' => e = .returned (.int .i64 0) ∧ Rc w' r vs (.slice none 0 0) (ops + 1) cut false ∧ Sf w' B vs (layAll kept L) ∧ Fr (r :: vs.ownBlock.toList) w w' ∧ Mine w B (r :: vs.ownBlock.toList) := by
  have H := hid (rbegins_any w r vs vl ops cut off h)
  rw [hlo, if_neg (by decide)] at H
  have hrm : Mine w B [r] := h.mine hB
  have ne : ∀ (g : Nat) (c : Array Value) (t : TypeId), t ≠ 62 → w.heap[g]? = some (.cells c t (0, 0)) → g ∉ [r] := fun g c t ht hg => h.ne ht hg
  have d3 : decide (1048576 ≤ ops) = false := decide_eq_false (by omega)
  have HW := hid (show wrap64 (ops + 1) = ops + 1 by unfold wrap64; omega)
  have HLn := hid hLn
  obtain ⟨ga, ca, rfl⟩ : ∃ ga ca, vs = .slice (some ⟨ga, 0, none⟩) kept.length ca := by obtain ⟨V, _, h2⟩ := hS; exact own_some h2 hk0
  obtain ⟨al, cl, rfl⟩ := hL.shape
  have hty : ∃ c, w.heap[ga]? = some (.cells c 35 (0, 0)) ∧ B ≤ ga := by
    obtain ⟨V, _, h2⟩ := hS
    obtain ⟨c, hc⟩ := own_type h2 ga (by simp [Value.ownBlock])
    exact ⟨c, hc, (h2.lt ga rfl).1⟩
  have hmine : Mine w B [r, ga] := fun k hk => by
    simp only [List.mem_cons, List.not_mem_nil, or_false] at hk
    rcases hk with rfl | rfl
    · exact hrm k (by simp)
    · obtain ⟨c, hc, hb⟩ := hty
      exact ⟨hb, c, _, hc, by decide, by decide, by decide, by decide⟩
  have hS0 := hS
  have hL0 := hL
  have HS := hid hS
  have HL := hid hL
  have HAT := hid hat
  have HM := hid hmine
  clear h hlo hL hLn ho ho0 hS hS0 hL0 hat hty hrm hmine hk0
  go_enter Try.func28, Try.ntmps28
  go_wp2_with fail
  refine H.out.mono ?_
  rintro e wb ⟨rfl, hR, hF⟩
  have h2 := hR.c2
  have HB0 := hid (And.intro hR (And.intro (HS.out.fr hF (fun g c => ne g c _ (by decide)) (fun g c => ne g c _ (by decide))) (And.intro (HL.out.fr hF (fun g c => ne g c _ (by decide)) (fun g c => ne g c _ (by decide))) (hF.mono (Y := [r, ga]) (by simp)))))
  clear hR hF ne HS HL H
  go_upto_region 7 with fail
  go_loopw [4] (fun x wr => ∃ k : Nat, k ≤ L.length ∧ x = .int .i64 k ∧ Rc wr r (.slice (some ⟨ga, 0, none⟩) kept.length ca) (.slice al L.length cl) ops cut false ∧ Sf wr B (.slice (some ⟨ga, 0, none⟩) kept.length ca) (layAll kept (L.take k)) ∧ Ls wr B (.slice al L.length cl) L ∧ Fr [r, ga] w wr) (fun x _ => L.length - (intOf x).toNat)
  case atStart => exact ⟨0, Nat.zero_le _, rfl, HB0.out.1, HB0.out.2.1, HB0.out.2.2.1, HB0.out.2.2.2⟩
  case round =>
    obtain ⟨k, hk, rfl, hRr, hSr, hLr, hFr⟩ := hrel
    have hLn' := HLn.out
    have HWk := hid (incR (k := k) (by omega))
    clear hLn' h2 HB0
    have h1 := hRr.c1
    by_cases hlt : k < L.length
    · have hlt' : decide ((k : Int) < (L.length : Int)) = true := decide_eq_true (by omega)
      have hmes : L.length - ((k + 1 : Nat) : Int).toNat < L.length - (k : Int).toNat := by omega
      obtain ⟨⟨i1, l1⟩, hx⟩ : ∃ x, L[k]? = some x := ⟨_, List.getElem?_eq_getElem hlt⟩
      have hi1 : i1 < kept.length := HAT.out _ (List.mem_of_getElem? hx)
      obtain ⟨gl, u1, rfl, q0, q1, hb1⟩ := hLr.get hx
      obtain ⟨gu, cu, rfl⟩ := hb1.shape
      have hlen : (layAll kept (L.take k)).length = kept.length := layAll_len _ _
      obtain ⟨hSn, _, ⟨cx, hcx⟩, ⟨vx, hvx⟩⟩ := hSr.put hlen hi1 hb1
      have hFs : Fr [ga] wr.drew (wr.drew.setCell ⟨ga, i1, none⟩ (.slice (some ⟨gu, 0, none⟩) 128 cu)) := Fr.setCell _ _ _ _
      have hga_r : r ∉ [ga] := fun hm => by
        obtain rfl : r = ga := by simpa using hm
        rw [Rc, hcx] at hRr; cases hRr
      have hga_l : gl ∉ [ga] := fun hm => by
        obtain rfl : gl = ga := by simpa using hm
        obtain ⟨K, _, _, hK⟩ := hLr
        obtain ⟨c, hc⟩ := own_type hK gl (by simp [Value.ownBlock])
        rw [hcx] at hc; cases hc
      have hS9 : (wr.drew.setCell ⟨ga, i1, none⟩ (.slice (some ⟨gu, 0, none⟩) 128 cu)).heap[r]? = wr.heap[r]? ∧ (wr.drew.setCell ⟨ga, i1, none⟩ (.slice (some ⟨gu, 0, none⟩) 128 cu)).heap[gl]? = wr.heap[gl]? :=
        ⟨hFs.block r (heap_lt hRr) hga_r, hFs.block gl (World.block_lt_of_cell? wr _ q0) hga_l⟩
      have hSn' : Sf (wr.drew.setCell ⟨ga, i1, none⟩ (.slice (some ⟨gu, 0, none⟩) 128 cu)) B (.slice (some ⟨ga, 0, none⟩) kept.length ca) (layAll kept (L.take (k + 1))) := by
        have ht : L.take (k + 1) = L.take k ++ [(i1, l1)] := by rw [List.take_add_one, hx]; rfl
        rw [ht, layAll_snoc]
        exact hSn
      have HN := hid (And.intro (hRr.fr hFs.undrew hga_r) (And.intro hSn' (And.intro (hLr.fr hFs.undrew (fun g c hg hm => by
          obtain rfl : g = ga := by simpa using hm
          rw [hcx] at hg; cases hg) (fun g c hg hm => by
          obtain rfl : g = ga := by simpa using hm
          rw [hcx] at hg; cases hg)) (hFr.trans hFs.undrew (by simp)))))
      have HRr := hid (show wr.heap[r]? = _ from hRr)
      have HQ := hid (And.intro q0 q1)
      have HA := hid (And.intro hvx (open_at hcx i1))
      generalize kept.length = n at *
      clear hRr hSr hLr hFr q0 q1 hb1 hSn hcx hvx hFs hga_r hga_l hSn' hx hlen hk
      go_upto_region 9 with fail
      refine h_openL (S := fun w' => w'.heap[r]? = wr.heap[r]? ∧ w'.heap[gl]? = wr.heap[gl]?) (by kernel_rfl) (by kernel_rfl) (fun _ _ _ _ _ h => h) (L := #[false, false, false, false, false, false, false, false, false, false, false, false, false, false, false, false, false, false, false, false, false, false]) (by kernel_rfl) ?_
      intro Q' hns hP hN
      have hS := (show wr.drew.heap[r]? = wr.heap[r]? ∧ wr.drew.heap[gl]? = wr.heap[gl]? from ⟨rfl, rfl⟩)
      refine h_takeL (i := 0) (v := .pointer (some ⟨r, 0, none⟩)) hns rfl rfl (by kernel_rfl) (by kernel_rfl) hP (y_move rfl (by kernel_rfl) (by kernel_rfl)) hS rfl (L' := #[true, false, false, false, false, false, false, false, false, false, false, false, false, false, false, false, false, false, false, false, false, false]) (by kernel_rfl) ?_
      refine h_takeL (i := 1) (v := .pointer (some ⟨r, 0, none⟩)) hns rfl rfl (by kernel_rfl) (by kernel_rfl) hP (y_nil rfl (by kernel_rfl) (by kernel_rfl)) hS rfl (L' := #[true, true, false, false, false, false, false, false, false, false, false, false, false, false, false, false, false, false, false, false, false, false]) (by kernel_rfl) ?_
      refine h_takeL (i := 2) (v := .pointer (some ⟨r, 0, none⟩)) hns rfl rfl (by kernel_rfl) (by kernel_rfl) hP (y_faddr rfl (by kernel_rfl) (by kernel_rfl) (fa62_0 (r))) hS rfl (L' := #[true, true, true, false, false, false, false, false, false, false, false, false, false, false, false, false, false, false, false, false, false, false]) (by kernel_rfl) ?_
      refine h_takeL (i := 3) (v := .slice (some ⟨ga, 0, none⟩) n ca) hns rfl rfl (by kernel_rfl) (by kernel_rfl) hP (y_load rfl (by kernel_rfl) (by kernel_rfl) (fun w h => load1 Try.isAgg59 (cell_at (h.1.trans HRr.out) 0 rfl))) hS rfl (L' := #[true, true, true, true, false, false, false, false, false, false, false, false, false, false, false, false, false, false, false, false, false, false]) (by kernel_rfl) ?_
      refine h_takeL (i := 4) (v := .pointer (some ⟨r, 0, none⟩)) hns rfl rfl (by kernel_rfl) (by kernel_rfl) hP (y_move rfl (by kernel_rfl) (by kernel_rfl)) hS rfl (L' := #[true, true, true, true, true, false, false, false, false, false, false, false, false, false, false, false, false, false, false, false, false, false]) (by kernel_rfl) ?_
      refine h_takeL (i := 5) (v := .pointer (some ⟨r, 0, none⟩)) hns rfl rfl (by kernel_rfl) (by kernel_rfl) hP (y_nil rfl (by kernel_rfl) (by kernel_rfl)) hS rfl (L' := #[true, true, true, true, true, true, false, false, false, false, false, false, false, false, false, false, false, false, false, false, false, false]) (by kernel_rfl) ?_
      refine h_takeL (i := 6) (v := .pointer (some ⟨r, 1, none⟩)) hns rfl rfl (by kernel_rfl) (by kernel_rfl) hP (y_faddr rfl (by kernel_rfl) (by kernel_rfl) (fa62_1 (r))) hS rfl (L' := #[true, true, true, true, true, true, true, false, false, false, false, false, false, false, false, false, false, false, false, false, false, false]) (by kernel_rfl) ?_
      simp only [List.setIfInBounds_toArray, List.set_cons_zero, List.set_cons_succ]
      refine h_takeL (i := 7) (v := .slice (some ⟨gl, 0, none⟩) L.length cl) hns rfl rfl (by kernel_rfl) (by kernel_rfl) hP (y_load rfl (by kernel_rfl) (by kernel_rfl) (fun w h => load1 Try.isAgg60 (cell_at (h.1.trans HRr.out) 1 rfl))) hS rfl (L' := #[true, true, true, true, true, true, true, true, false, false, false, false, false, false, false, false, false, false, false, false, false, false]) (by kernel_rfl) ?_
      refine h_takeL (i := 8) (v := .int .i64 k) hns rfl rfl (by kernel_rfl) (by kernel_rfl) hP (y_move rfl (by kernel_rfl) (by kernel_rfl)) hS rfl (L' := #[true, true, true, true, true, true, true, true, true, false, false, false, false, false, false, false, false, false, false, false, false, false]) (by kernel_rfl) ?_
      refine h_takeL (i := 9) (v := .pointer (some ⟨gl, k * 2, none⟩)) hns rfl rfl (by kernel_rfl) (by kernel_rfl) hP (y_index rfl (by kernel_rfl) (by kernel_rfl) (by kernel_rfl) (idx60 gl L.length cl k hlt)) hS rfl (L' := #[true, true, true, true, true, true, true, true, true, true, false, false, false, false, false, false, false, false, false, false, false, false]) (by kernel_rfl) ?_
      refine h_takeL (i := 10) (v := .pointer (some ⟨gl, k * 2, none⟩)) hns rfl rfl (by kernel_rfl) (by kernel_rfl) hP (y_faddr rfl (by kernel_rfl) (by kernel_rfl) (fa81_0 gl (k * 2))) hS rfl (L' := #[true, true, true, true, true, true, true, true, true, true, true, false, false, false, false, false, false, false, false, false, false, false]) (by kernel_rfl) ?_
      refine h_takeL (i := 11) (v := .int .i64 i1) hns rfl rfl (by kernel_rfl) (by kernel_rfl) hP (y_load rfl (by kernel_rfl) (by kernel_rfl) (fun w h => load1 Try.isAgg3 (w := w) ((World.cell?_of_block (a := ⟨gl, k * 2, none⟩) h.2).trans HQ.out.1))) hS rfl (L' := #[true, true, true, true, true, true, true, true, true, true, true, true, false, false, false, false, false, false, false, false, false, false]) (by kernel_rfl) ?_
      refine h_takeL (i := 12) (v := .pointer (some ⟨r, 0, none⟩)) hns rfl rfl (by kernel_rfl) (by kernel_rfl) hP (y_move rfl (by kernel_rfl) (by kernel_rfl)) hS rfl (L' := #[true, true, true, true, true, true, true, true, true, true, true, true, true, false, false, false, false, false, false, false, false, false]) (by kernel_rfl) ?_
      refine h_takeL (i := 13) (v := .pointer (some ⟨r, 0, none⟩)) hns rfl rfl (by kernel_rfl) (by kernel_rfl) hP (y_nil rfl (by kernel_rfl) (by kernel_rfl)) hS rfl (L' := #[true, true, true, true, true, true, true, true, true, true, true, true, true, true, false, false, false, false, false, false, false, false]) (by kernel_rfl) ?_
      refine h_takeL (i := 14) (v := .pointer (some ⟨r, 1, none⟩)) hns rfl rfl (by kernel_rfl) (by kernel_rfl) hP (y_faddr rfl (by kernel_rfl) (by kernel_rfl) (fa62_1 (r))) hS rfl (L' := #[true, true, true, true, true, true, true, true, true, true, true, true, true, true, true, false, false, false, false, false, false, false]) (by kernel_rfl) ?_
      simp only [List.setIfInBounds_toArray, List.set_cons_zero, List.set_cons_succ]
      refine h_takeL (i := 15) (v := .slice (some ⟨gl, 0, none⟩) L.length cl) hns rfl rfl (by kernel_rfl) (by kernel_rfl) hP (y_load rfl (by kernel_rfl) (by kernel_rfl) (fun w h => load1 Try.isAgg60 (cell_at (h.1.trans HRr.out) 1 rfl))) hS rfl (L' := #[true, true, true, true, true, true, true, true, true, true, true, true, true, true, true, true, false, false, false, false, false, false]) (by kernel_rfl) ?_
      refine h_takeL (i := 16) (v := .int .i64 k) hns rfl rfl (by kernel_rfl) (by kernel_rfl) hP (y_move rfl (by kernel_rfl) (by kernel_rfl)) hS rfl (L' := #[true, true, true, true, true, true, true, true, true, true, true, true, true, true, true, true, true, false, false, false, false, false]) (by kernel_rfl) ?_
      refine h_takeL (i := 17) (v := .pointer (some ⟨gl, k * 2, none⟩)) hns rfl rfl (by kernel_rfl) (by kernel_rfl) hP (y_index rfl (by kernel_rfl) (by kernel_rfl) (by kernel_rfl) (idx60 gl L.length cl k hlt)) hS rfl (L' := #[true, true, true, true, true, true, true, true, true, true, true, true, true, true, true, true, true, true, false, false, false, false]) (by kernel_rfl) ?_
      refine h_takeL (i := 18) (v := .pointer (some ⟨gl, k * 2 + 1, none⟩)) hns rfl rfl (by kernel_rfl) (by kernel_rfl) hP (y_faddr rfl (by kernel_rfl) (by kernel_rfl) (fa81_1 gl (k * 2))) hS rfl (L' := #[true, true, true, true, true, true, true, true, true, true, true, true, true, true, true, true, true, true, true, false, false, false]) (by kernel_rfl) ?_
      refine h_takeL (i := 19) (v := .slice (some ⟨gu, 0, none⟩) 128 cu) hns rfl rfl (by kernel_rfl) (by kernel_rfl) hP (y_load rfl (by kernel_rfl) (by kernel_rfl) (fun w h => load1 Try.isAgg35 (w := w) ((World.cell?_of_block (a := ⟨gl, k * 2 + 1, none⟩) h.2).trans HQ.out.2))) hS rfl (L' := #[true, true, true, true, true, true, true, true, true, true, true, true, true, true, true, true, true, true, true, true, false, false]) (by kernel_rfl) ?_
      refine h_takeL (i := 20) (v := .pointer (some ⟨ga, i1, none⟩)) hns rfl rfl (by kernel_rfl) (by kernel_rfl) hP (y_index rfl (by kernel_rfl) (by kernel_rfl) (by kernel_rfl) (idx59 ga n ca i1 hi1)) hS rfl (L' := #[true, true, true, true, true, true, true, true, true, true, true, true, true, true, true, true, true, true, true, true, true, false]) (by kernel_rfl) ?_
      refine h_skipL (i := 21) (by kernel_rfl) rfl rfl (by kernel_rfl) (run_storeOp rfl (by kernel_rfl) (by kernel_rfl) (store1 (t := 35) Try.sizeOf35 (.slice (some ⟨gu, 0, none⟩) 128 cu) rfl rfl HA.out.1 HA.out.2)) hS9 (L' := #[true, true, true, true, true, true, true, true, true, true, true, true, true, true, true, true, true, true, true, true, true, true]) (by kernel_rfl) ?_
      simp only [List.setIfInBounds_toArray, List.set_cons_zero, List.set_cons_succ]
      refine wpAnyH_done (by kernel_rfl) ?_ _
      refine hN _ _ ?_
      clear hP hN hns
      clear HRr HQ HA hS hS9
      generalize wr.drew.setCell ⟨ga, i1, none⟩ (.slice (some ⟨gu, 0, none⟩) 128 cu) = w9 at *
      go_upto_region 8 with fail
      refine wp_region_lit ?_
      refine wp_move (v := .int .i64 k) (by kernel_rfl) ?_
      refine wp_addi (z := ((k + 1 : Nat) : Int)) (by kernel_rfl) (by kernel_rfl) HWk.out ?_
      refine wp_assign (v := .int .i64 (k + 1 : Nat)) (by kernel_rfl) ?_
      dsimp only [Act.put]
      simp only [List.setIfInBounds_toArray, List.set_cons_zero, List.set_cons_succ]
      refine wp_end ?_
      go_wp2
      go_roundw
      case rel => exact ⟨k + 1, hlt, rfl, HN.out⟩
      case measure => exact hmes
    · have hlt' : decide ((k : Int) < (L.length : Int)) = false := decide_eq_false (by omega)
      have hkL : k = L.length := by omega
      rw [hkL, List.take_length] at hSr
      have c2 := hRr.c2
      have f1 := hRr.f 1
      have f2 := hRr.f 2
      have hw := HW.out
      have HZ := hid (And.intro hRr (And.intro hSr hFr))
      clear hRr hSr hLr hFr hkL hk HWk HW
      go_wp2
      go_ret
      have hF2 : Fr [r] wr ((wr.setCell ⟨r, 1, none⟩ (.slice none 0 0)).setCell ⟨r, 2, none⟩ (.int .i64 (ops + 1))) := (Fr.setCell wr r 1 _).trans (Fr.setCell _ r 2 _) (by simp)
      exact ⟨rfl, heap_setCell (heap_setCell HZ.out.1 1 (.slice none 0 0)) 2 (.int .i64 (ops + 1)), HZ.out.2.1.fr hF2 (fun g c => HZ.out.1.ne (by decide)) (fun g c => HZ.out.1.ne (by decide)), HZ.out.2.2.trans hF2 (by simp), HM.out⟩
end
end Go.Proofs.Ytkfomolglangdaa
