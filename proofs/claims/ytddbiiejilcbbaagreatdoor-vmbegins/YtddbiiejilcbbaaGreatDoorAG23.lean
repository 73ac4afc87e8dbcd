/- texts put together: VmE2 VmE3 VmU1 VmU2 VmU3 VmU4 VmE4 VmL0 -/
import Derived.Test.YtddbiiejilcbbaaGreatDoorAG22
import Derived.Test.DevTool
import Derived.Test.YtddbiiejilcbbaaGreatDoorAG16
import Derived.Test.YtddbiiejilcbbaaGreatDoorAG4
namespace Go.Proofs.YtddbiiejilcbbaaGreatDoor
open Go Go.RowKit

section
variable {w0 w : World} {k : Kd} {fs : Fs} {fa aW aI : Option Addr} {fN fc nW cW nI cI : Nat} {rg day : Int} {g gc gR g9 : Nat} {hv tv hv1 tv1 : Value} {sh : List (Int × Int)} {so : List (List UInt8 × Int)} {N M i : Nat} {R : Ms × Bool} {s1 : Ms} {r : Rg} {Q : Ending → World → Prop}

set_option maxHeartbeats 4000000 in
set_option maxRecDepth 100000 in
seal rn rnN rnS Goes ans atEnd put0 put putM opened openedY putA0 putA oneSt st0 keep mkSt newSt rgO erH erS erT in
theorem ed_27 {xa xb xc xn xt : Int} {xs : List UInt8} (H : CaseE w0 w k fs fa aW aI fN fc nW cW nI cI rg day g gc gR g9 hv tv sh so N M i s1 r ⟨27, xa, xb, xc, xn, xs, xt⟩) (hRun : runD k fs day M r (s1.one.pay xs r.f) = R) (tl : TailE w0 w k fs fa aW aI fN fc nW cW nI cI rg day g gc gR g9 hv tv N M R Q ⟨27, xa, xb, xc, xn, xs, xt⟩) (J : Nat → Value) : Goes Tryz.prog (bodyPost Tryz.prog Tryz.f21 Q) (McI w0.heap.size g day w hv tv hv1 tv1 s1.holds s1.out) ⟨erS, fr 228 (eS9 g gc gR g9 r) J, [(g, dmO day (.slice fa fN fc) hv1 tv1 (s1.steps + 1) false), (gc, cdO rg (.slice aW nW cW) (.slice aI nI cI)), (gR, rgO r.regs), (g9, .cells (iC ⟨27, xa, xb, xc, xn, xs, xt⟩).toArray 72 (0, 0))]⟩ := by
  obtain ⟨h0, hg0, hBw, hl, ht, hge, hgc, hgR, hg9, hnd, hX, hs, hFit, hFit1, hov, hH1, hLeft, hMost, hon⟩ := id H
  have hnd' : (Mem.ids [(g, dmO day (.slice fa fN fc) hv1 tv1 (s1.steps + 1) false), (gc, cdO rg (.slice aW nW cW) (.slice aI nI cI)), (gR, rgO r.regs), (g9, .cells (iC ⟨27, xa, xb, xc, xn, xs, xt⟩).toArray 72 (0, 0))]).Nodup := hnd
  have hids : ∀ {w3 : World}, w3.heap[gc]? = some (cdO rg (.slice aW nW cW) (.slice aI nI cI)) → w3.heap[gR]? = some (rgO r.regs) → w3.heap[g9]? = some (.cells (iC ⟨27, xa, xb, xc, xn, xs, xt⟩).toArray 72 (0, 0)) → ∀ y ∈ Mem.ids [(g, dmO day (.slice fa fN fc) hv1 tv1 (s1.steps + 1) false), (gc, cdO rg (.slice aW nW cW) (.slice aI nI cI)), (gR, rgO r.regs), (g9, .cells (iC ⟨27, xa, xb, xc, xn, xs, xt⟩).toArray 72 (0, 0))], y = g ∨ (w.heap.size ≤ y ∧ ∃ c e z, w3.heap[y]? = some (.cells c e z) ∧ ty5 e = false) := fun kc kR k9 y hy => by
    simp only [Mem.ids, List.map_cons, List.map_nil, List.mem_cons, List.not_mem_nil, or_false] at hy
    rcases hy with rfl | rfl | rfl | rfl
    · exact .inl rfl
    · exact .inr ⟨hgc, _, _, _, kc, by decide⟩
    · exact .inr ⟨hgR, rg_blk kR⟩
    · exact .inr ⟨hg9, _, _, _, k9, by decide⟩
  cases hz : (r.f == 0) with
  | true =>
    have hp : s1.one.pay xs r.f = s1.one := by unfold Ms.pay; rw [hz]; simp [Ms.one]
    rw [hp] at hRun
    refine Goes.run [3, 0, 0, 0, 0, 0, 0, 0, 0, 0, 0, 0, 0, 1, 0] [(r.f != 0, false), (true, true), (false, false), (false, false), (false, false), (false, false), (false, false), (false, false), (false, false), (false, false), (false, false), (false, false), (false, false), (false, false)] ⟨(by rw [bne, hz]; rfl), rfl, rfl, rfl, rfl, rfl, rfl, rfl, rfl, rfl, rfl, rfl, rfl, rfl, trivial⟩ ?_
    refine Goes.run [] [] trivial ?_
    exact Goes.at (K := erT) (n := 228) (S := eST g gc gR g9 (r) (false)) (m := [(g, dmO day (.slice fa fN fc) hv1 tv1 (s1.steps + 1) false), (gc, cdO rg (.slice aW nW cW) (.slice aI nI cI)), (gR, rgO (r).regs), (g9, .cells (iC ⟨27, xa, xb, xc, xn, xs, xt⟩).toArray 72 (0, 0))]) (fun J => tl (r) (false) (s1.one) false hv1 tv1 (⟨hRun, by show M ≤ N; omega, fun _ => ⟨hFit1, hov, by show 65538 ≤ s1.steps + 1 + (M : Int); omega, by show 0 ≤ r.next ∧ r.next < _; rw [hon]; have := hX.next (by show ((27 : Int)) ≠ 30; decide); omega⟩⟩) J) (by kernel_chk) (by kernel_chk) (by kernel_chk)
  | false =>
    have hp : s1.one.pay xs r.f = (⟨s1.holds, s1.out ++ [(xs, r.f)], s1.steps + 1⟩ : Ms) := by unfold Ms.pay; rw [hz]; rfl
    rw [hp] at hRun
    refine Goes.run [3, 0, 0, 0, 0, 0, 0, 0, 0, 0, 0, 0, 0, 1, 1] [(r.f != 0, true), (true, true), (false, false), (false, false), (false, false), (false, false), (false, false), (false, false), (false, false), (false, false), (false, false), (false, false), (false, false), (false, false)] ⟨(by rw [bne, hz]; rfl), rfl, rfl, rfl, rfl, rfl, rfl, rfl, rfl, rfl, rfl, rfl, rfl, rfl, trivial⟩ ?_
    refine Goes.open [3] ?_
    refine Goes.run [0, 1, 2, 3, 5, 6, 7, 9, 10, 0, 11] [] trivial ?_
    refine Goes.two 4 8 (TookS.runV 4 0 [3] [] [g, gc, gR, g9] (by simp) ?_) (TookS.runV 8 0 [3] [] [g, gc, gR, g9] (by simp) ?_)
    · refine Goes.lone1 8 (TookS.runV 8 0 [3] [] [g, gc, gR, g9] (by simp) ?_)
      refine Goes.run [12] [] trivial ?_
      refine Goes.lone1 13 (TookS.new1V 13 w.heap.size [3] [] [g, gc, gR, g9] (by simp) (fun w' h => h.1.size) fun gb hgb => ?_)
      refine Goes.lone1 14 (TookS.effM 14 (Builtin.append_ #[38, 38] 38 #[tv1, .slice (some ⟨gb, 0, none⟩) 1 1]) fun w2 hm2 hn2 hI2 hM2 => ?_)
      have z1 : w2.heap[gb]? = some (.cells #[.int .i64 day, strV xs, .int .i64 r.f] 59 (0, 0)) := hm2.get 4
      have y0 : w2.heap[g]? = some (dmO day (.slice fa fN fc) hv1 tv1 (s1.steps + 1) false) := hm2.get 0
      have yc : w2.heap[gc]? = some (cdO rg (.slice aW nW cW) (.slice aI nI cI)) := hm2.get 1
      have yR : w2.heap[gR]? = some (rgO r.regs) := hm2.get 2
      have y9 : w2.heap[g9]? = some (.cells (iC ⟨27, xa, xb, xc, xn, xs, xt⟩).toArray 72 (0, 0)) := hm2.get 3
      obtain ⟨b, c', w3, hr3, hI3, hk3⟩ := hI2.now.pay (Nat.le_trans hBw.size hI2.now.1.size) (xs, r.f) z1 (by have := hFit.out; have := hFit.hi; omega) (ty := 38) (c := 1)
      have k0 : w3.heap[g]? = some (dmO day (.slice fa fN fc) hv1 tv1 (s1.steps + 1) false) := hk3 g _ _ _ y0 (by decide)
      have kc : w3.heap[gc]? = some (cdO rg (.slice aW nW cW) (.slice aI nI cI)) := hk3 gc _ _ _ yc (by decide)
      have kR : w3.heap[gR]? = some (rgO r.regs) := rg_keptT hk3 yR
      have k9 : w3.heap[g9]? = some (.cells (iC ⟨27, xa, xb, xc, xn, xs, xt⟩).toArray 72 (0, 0)) := hk3 g9 _ _ _ y9 (by decide)
      refine ⟨_, w3, _, [(g, dmO day (.slice fa fN fc) hv1 tv1 (s1.steps + 1) false), (gc, cdO rg (.slice aW nW cW) (.slice aI nI cI)), (gR, rgO r.regs), (g9, .cells (iC ⟨27, xa, xb, xc, xn, xs, xt⟩).toArray 72 (0, 0))], hr3, by rw [show anyM _ = [(g9, .cells (iC ⟨27, xa, xb, xc, xn, xs, xt⟩).toArray 72 (0, 0))] from by kernel_chk]; exact hold1v k9, hold_in (by simpa using ⟨k0, kc, kR, k9⟩), hnd', hI3.stay ⟨_, _, _, k0, by decide, by decide⟩ (hids kc kR k9), ?_⟩
      refine Goes.run [15, 16] [] trivial ?_
      refine Goes.lone1 17 (TookS.runV 17 0 [3] [] [g, gc, gR, g9] (by simp) ?_)
      refine Goes.run [] [] trivial ?_
      exact Goes.at (K := erT) (n := 228) (S := eST g gc gR g9 (r) (false)) (m := [(g, dmO day (.slice fa fN fc) hv1 (.slice (some ⟨b, 0, none⟩) (s1.out.length + 1) c') ((⟨s1.holds, s1.out ++ [(xs, r.f)], s1.steps + 1⟩ : Ms)).steps false), (gc, cdO rg (.slice aW nW cW) (.slice aI nI cI)), (gR, rgO (r).regs), (g9, .cells (iC ⟨27, xa, xb, xc, xn, xs, xt⟩).toArray 72 (0, 0))]) (fun J => tl (r) (false) ((⟨s1.holds, s1.out ++ [(xs, r.f)], s1.steps + 1⟩ : Ms)) false hv1 (.slice (some ⟨b, 0, none⟩) (s1.out.length + 1) c') (⟨hRun, by show M ≤ N; omega, fun _ => ⟨hp ▸ hFit.pay xs r.f hFit1, hov, by show 65538 ≤ s1.steps + 1 + (M : Int); omega, by show 0 ≤ r.next ∧ r.next < _; rw [hon]; have := hX.next (by show ((27 : Int)) ≠ 30; decide); omega⟩⟩) J) (by kernel_chk) (by kernel_chk) (by kernel_chk)
    · refine Goes.run [12] [] trivial ?_
      refine Goes.two 4 13 (TookS.runV 4 0 [3] [] [g, gc, gR, g9] (by simp) ?_) (TookS.new1V 13 w.heap.size [3] [] [g, gc, gR, g9] (by simp) (fun w' h => h.1.size) fun gb hgb => ?_)
      · refine Goes.lone1 13 (TookS.new1V 13 w.heap.size [3] [] [g, gc, gR, g9] (by simp) (fun w' h => h.1.size) fun gb hgb => ?_)
        refine Goes.lone1 14 (TookS.effM 14 (Builtin.append_ #[38, 38] 38 #[tv1, .slice (some ⟨gb, 0, none⟩) 1 1]) fun w2 hm2 hn2 hI2 hM2 => ?_)
        have z1 : w2.heap[gb]? = some (.cells #[.int .i64 day, strV xs, .int .i64 r.f] 59 (0, 0)) := hm2.get 4
        have y0 : w2.heap[g]? = some (dmO day (.slice fa fN fc) hv1 tv1 (s1.steps + 1) false) := hm2.get 0
        have yc : w2.heap[gc]? = some (cdO rg (.slice aW nW cW) (.slice aI nI cI)) := hm2.get 1
        have yR : w2.heap[gR]? = some (rgO r.regs) := hm2.get 2
        have y9 : w2.heap[g9]? = some (.cells (iC ⟨27, xa, xb, xc, xn, xs, xt⟩).toArray 72 (0, 0)) := hm2.get 3
        obtain ⟨b, c', w3, hr3, hI3, hk3⟩ := hI2.now.pay (Nat.le_trans hBw.size hI2.now.1.size) (xs, r.f) z1 (by have := hFit.out; have := hFit.hi; omega) (ty := 38) (c := 1)
        have k0 : w3.heap[g]? = some (dmO day (.slice fa fN fc) hv1 tv1 (s1.steps + 1) false) := hk3 g _ _ _ y0 (by decide)
        have kc : w3.heap[gc]? = some (cdO rg (.slice aW nW cW) (.slice aI nI cI)) := hk3 gc _ _ _ yc (by decide)
        have kR : w3.heap[gR]? = some (rgO r.regs) := rg_keptT hk3 yR
        have k9 : w3.heap[g9]? = some (.cells (iC ⟨27, xa, xb, xc, xn, xs, xt⟩).toArray 72 (0, 0)) := hk3 g9 _ _ _ y9 (by decide)
        refine ⟨_, w3, _, [(g, dmO day (.slice fa fN fc) hv1 tv1 (s1.steps + 1) false), (gc, cdO rg (.slice aW nW cW) (.slice aI nI cI)), (gR, rgO r.regs), (g9, .cells (iC ⟨27, xa, xb, xc, xn, xs, xt⟩).toArray 72 (0, 0))], hr3, by rw [show anyM _ = [(g9, .cells (iC ⟨27, xa, xb, xc, xn, xs, xt⟩).toArray 72 (0, 0))] from by kernel_chk]; exact hold1v k9, hold_in (by simpa using ⟨k0, kc, kR, k9⟩), hnd', hI3.stay ⟨_, _, _, k0, by decide, by decide⟩ (hids kc kR k9), ?_⟩
        refine Goes.run [15, 16] [] trivial ?_
        refine Goes.lone1 17 (TookS.runV 17 0 [3] [] [g, gc, gR, g9] (by simp) ?_)
        refine Goes.run [] [] trivial ?_
        exact Goes.at (K := erT) (n := 228) (S := eST g gc gR g9 (r) (false)) (m := [(g, dmO day (.slice fa fN fc) hv1 (.slice (some ⟨b, 0, none⟩) (s1.out.length + 1) c') ((⟨s1.holds, s1.out ++ [(xs, r.f)], s1.steps + 1⟩ : Ms)).steps false), (gc, cdO rg (.slice aW nW cW) (.slice aI nI cI)), (gR, rgO (r).regs), (g9, .cells (iC ⟨27, xa, xb, xc, xn, xs, xt⟩).toArray 72 (0, 0))]) (fun J => tl (r) (false) ((⟨s1.holds, s1.out ++ [(xs, r.f)], s1.steps + 1⟩ : Ms)) false hv1 (.slice (some ⟨b, 0, none⟩) (s1.out.length + 1) c') (⟨hRun, by show M ≤ N; omega, fun _ => ⟨hp ▸ hFit.pay xs r.f hFit1, hov, by show 65538 ≤ s1.steps + 1 + (M : Int); omega, by show 0 ≤ r.next ∧ r.next < _; rw [hon]; have := hX.next (by show ((27 : Int)) ≠ 30; decide); omega⟩⟩) J) (by kernel_chk) (by kernel_chk) (by kernel_chk)
      · refine Goes.lone1 4 (TookS.runV 4 0 [3] [] [g, gc, gR, g9, gb] (by simp) ?_)
        refine Goes.lone1 14 (TookS.effM 14 (Builtin.append_ #[38, 38] 38 #[tv1, .slice (some ⟨gb, 0, none⟩) 1 1]) fun w2 hm2 hn2 hI2 hM2 => ?_)
        have z1 : w2.heap[gb]? = some (.cells #[.int .i64 day, strV xs, .int .i64 r.f] 59 (0, 0)) := hm2.get 4
        have y0 : w2.heap[g]? = some (dmO day (.slice fa fN fc) hv1 tv1 (s1.steps + 1) false) := hm2.get 0
        have yc : w2.heap[gc]? = some (cdO rg (.slice aW nW cW) (.slice aI nI cI)) := hm2.get 1
        have yR : w2.heap[gR]? = some (rgO r.regs) := hm2.get 2
        have y9 : w2.heap[g9]? = some (.cells (iC ⟨27, xa, xb, xc, xn, xs, xt⟩).toArray 72 (0, 0)) := hm2.get 3
        obtain ⟨b, c', w3, hr3, hI3, hk3⟩ := hI2.now.pay (Nat.le_trans hBw.size hI2.now.1.size) (xs, r.f) z1 (by have := hFit.out; have := hFit.hi; omega) (ty := 38) (c := 1)
        have k0 : w3.heap[g]? = some (dmO day (.slice fa fN fc) hv1 tv1 (s1.steps + 1) false) := hk3 g _ _ _ y0 (by decide)
        have kc : w3.heap[gc]? = some (cdO rg (.slice aW nW cW) (.slice aI nI cI)) := hk3 gc _ _ _ yc (by decide)
        have kR : w3.heap[gR]? = some (rgO r.regs) := rg_keptT hk3 yR
        have k9 : w3.heap[g9]? = some (.cells (iC ⟨27, xa, xb, xc, xn, xs, xt⟩).toArray 72 (0, 0)) := hk3 g9 _ _ _ y9 (by decide)
        refine ⟨_, w3, _, [(g, dmO day (.slice fa fN fc) hv1 tv1 (s1.steps + 1) false), (gc, cdO rg (.slice aW nW cW) (.slice aI nI cI)), (gR, rgO r.regs), (g9, .cells (iC ⟨27, xa, xb, xc, xn, xs, xt⟩).toArray 72 (0, 0))], hr3, by rw [show anyM _ = [(g9, .cells (iC ⟨27, xa, xb, xc, xn, xs, xt⟩).toArray 72 (0, 0))] from by kernel_chk]; exact hold1v k9, hold_in (by simpa using ⟨k0, kc, kR, k9⟩), hnd', hI3.stay ⟨_, _, _, k0, by decide, by decide⟩ (hids kc kR k9), ?_⟩
        refine Goes.run [15, 16] [] trivial ?_
        refine Goes.lone1 17 (TookS.runV 17 0 [3] [] [g, gc, gR, g9] (by simp) ?_)
        refine Goes.run [] [] trivial ?_
        exact Goes.at (K := erT) (n := 228) (S := eST g gc gR g9 (r) (false)) (m := [(g, dmO day (.slice fa fN fc) hv1 (.slice (some ⟨b, 0, none⟩) (s1.out.length + 1) c') ((⟨s1.holds, s1.out ++ [(xs, r.f)], s1.steps + 1⟩ : Ms)).steps false), (gc, cdO rg (.slice aW nW cW) (.slice aI nI cI)), (gR, rgO (r).regs), (g9, .cells (iC ⟨27, xa, xb, xc, xn, xs, xt⟩).toArray 72 (0, 0))]) (fun J => tl (r) (false) ((⟨s1.holds, s1.out ++ [(xs, r.f)], s1.steps + 1⟩ : Ms)) false hv1 (.slice (some ⟨b, 0, none⟩) (s1.out.length + 1) c') (⟨hRun, by show M ≤ N; omega, fun _ => ⟨hp ▸ hFit.pay xs r.f hFit1, hov, by show 65538 ≤ s1.steps + 1 + (M : Int); omega, by show 0 ≤ r.next ∧ r.next < _; rw [hon]; have := hX.next (by show ((27 : Int)) ≠ 30; decide); omega⟩⟩) J) (by kernel_chk) (by kernel_chk) (by kernel_chk)
set_option maxHeartbeats 4000000 in
set_option maxRecDepth 100000 in
seal rn rnN rnS Goes ans atEnd put0 put putM opened openedY putA0 putA oneSt st0 keep mkSt newSt rgO erH erS erT in
theorem ed_28 {xa xb xc xn xt : Int} {xs : List UInt8} (H : CaseE w0 w k fs fa aW aI fN fc nW cW nI cI rg day g gc gR g9 hv tv sh so N M i s1 r ⟨28, xa, xb, xc, xn, xs, xt⟩) (hRun : (bif decide (((s1.one.hold xn r.f).holds.length : Int) > 250) then (s1.one.hold xn r.f, true) else runD k fs day M r (s1.one.hold xn r.f)) = R) (tl : TailE w0 w k fs fa aW aI fN fc nW cW nI cI rg day g gc gR g9 hv tv N M R Q ⟨28, xa, xb, xc, xn, xs, xt⟩) (J : Nat → Value) : Goes Tryz.prog (bodyPost Tryz.prog Tryz.f21 Q) (McI w0.heap.size g day w hv tv hv1 tv1 s1.holds s1.out) ⟨erS, fr 228 (eS9 g gc gR g9 r) J, [(g, dmO day (.slice fa fN fc) hv1 tv1 (s1.steps + 1) false), (gc, cdO rg (.slice aW nW cW) (.slice aI nI cI)), (gR, rgO r.regs), (g9, .cells (iC ⟨28, xa, xb, xc, xn, xs, xt⟩).toArray 72 (0, 0))]⟩ := by
  obtain ⟨h0, hg0, hBw, hl, ht, hge, hgc, hgR, hg9, hnd, hX, hs, hFit, hFit1, hov, hH1, hLeft, hMost, hon⟩ := id H
  have hnd' : (Mem.ids [(g, dmO day (.slice fa fN fc) hv1 tv1 (s1.steps + 1) false), (gc, cdO rg (.slice aW nW cW) (.slice aI nI cI)), (gR, rgO r.regs), (g9, .cells (iC ⟨28, xa, xb, xc, xn, xs, xt⟩).toArray 72 (0, 0))]).Nodup := hnd
  have hids : ∀ {w3 : World}, w3.heap[gc]? = some (cdO rg (.slice aW nW cW) (.slice aI nI cI)) → w3.heap[gR]? = some (rgO r.regs) → w3.heap[g9]? = some (.cells (iC ⟨28, xa, xb, xc, xn, xs, xt⟩).toArray 72 (0, 0)) → ∀ y ∈ Mem.ids [(g, dmO day (.slice fa fN fc) hv1 tv1 (s1.steps + 1) false), (gc, cdO rg (.slice aW nW cW) (.slice aI nI cI)), (gR, rgO r.regs), (g9, .cells (iC ⟨28, xa, xb, xc, xn, xs, xt⟩).toArray 72 (0, 0))], y = g ∨ (w.heap.size ≤ y ∧ ∃ c e z, w3.heap[y]? = some (.cells c e z) ∧ ty5 e = false) := fun kc kR k9 y hy => by
    simp only [Mem.ids, List.map_cons, List.map_nil, List.mem_cons, List.not_mem_nil, or_false] at hy
    rcases hy with rfl | rfl | rfl | rfl
    · exact .inl rfl
    · exact .inr ⟨hgc, _, _, _, kc, by decide⟩
    · exact .inr ⟨hgR, rg_blk kR⟩
    · exact .inr ⟨hg9, _, _, _, k9, by decide⟩
  have hln : (s1.one.hold xn r.f).holds.length = s1.holds.length + 1 := by simp [Ms.hold, Ms.one]
  rw [hln] at hRun
  have hok : ∀ hv' tv', LpE.ok k fs day N R ⟨r.go xt false, s1.one.hold xn r.f, (decide (((s1.holds.length + 1 : Nat) : Int) > 250)), M, hv', tv'⟩ := fun hv' tv' => ⟨hRun, by show M ≤ N; omega, fun hb => ⟨hFit1.hold hH1 xn r.f, over_iff.2 ⟨(over_iff.1 hov).1, by
    have h1 : ¬ (((s1.holds.length + 1 : Nat) : Int) > 250) := of_decide_eq_false hb
    rw [hln]
    omega⟩, by show 65538 ≤ s1.steps + 1 + (M : Int); omega, by show 0 ≤ r.next ∧ r.next < _; rw [hon]; have := hX.next (by show ((28 : Int)) ≠ 30; decide); omega⟩⟩
  refine Goes.run [3, 0, 0, 0, 0, 0, 0, 0, 0, 0, 0, 0, 0, 0, 1] [(true, true), (false, false), (false, false), (false, false), (false, false), (false, false), (false, false), (false, false), (false, false), (false, false), (false, false), (false, false), (false, false), (false, false)] ⟨rfl, rfl, rfl, rfl, rfl, rfl, rfl, rfl, rfl, rfl, rfl, rfl, rfl, rfl, trivial⟩ ?_
  refine Goes.open [3] ?_
  refine Goes.run [0, 1, 2, 3, 5, 6, 0, 7, 8] [] trivial ?_
  refine Goes.two 4 9 (TookS.runV 4 0 [3] [] [g, gc, gR, g9] (by simp) ?_) (TookS.new1V 9 w.heap.size [3] [] [g, gc, gR, g9] (by simp) (fun w' h => h.1.size) fun gb hgb => ?_)
  · refine Goes.lone1 9 (TookS.new1V 9 w.heap.size [3] [] [g, gc, gR, g9] (by simp) (fun w' h => h.1.size) fun gb hgb => ?_)
    refine Goes.lone1 10 (TookS.effM 10 (Builtin.append_ #[37, 37] 37 #[hv1, .slice (some ⟨gb, 0, none⟩) 1 1]) fun w2 hm2 hn2 hI2 hM2 => ?_)
    have z1 : w2.heap[gb]? = some (.cells #[.int .i64 xn, .int .i64 r.f] 86 (0, 0)) := hm2.get 4
    have y0 : w2.heap[g]? = some (dmO day (.slice fa fN fc) hv1 tv1 (s1.steps + 1) false) := hm2.get 0
    have yc : w2.heap[gc]? = some (cdO rg (.slice aW nW cW) (.slice aI nI cI)) := hm2.get 1
    have yR : w2.heap[gR]? = some (rgO r.regs) := hm2.get 2
    have y9 : w2.heap[g9]? = some (.cells (iC ⟨28, xa, xb, xc, xn, xs, xt⟩).toArray 72 (0, 0)) := hm2.get 3
    obtain ⟨b, c', w3, hr3, hI3, hk3⟩ := hI2.now.live (Nat.le_trans hBw.size hI2.now.1.size) (xn, r.f) z1 (by have := hH1; have e : s1.one.holds = s1.holds := rfl; rw [e] at this; omega) (ty := 37) (c := 1)
    have k0 : w3.heap[g]? = some (dmO day (.slice fa fN fc) hv1 tv1 (s1.steps + 1) false) := hk3 g _ _ _ y0 (by decide)
    have kc : w3.heap[gc]? = some (cdO rg (.slice aW nW cW) (.slice aI nI cI)) := hk3 gc _ _ _ yc (by decide)
    have kR : w3.heap[gR]? = some (rgO r.regs) := rg_kept hk3 yR
    have k9 : w3.heap[g9]? = some (.cells (iC ⟨28, xa, xb, xc, xn, xs, xt⟩).toArray 72 (0, 0)) := hk3 g9 _ _ _ y9 (by decide)
    refine ⟨_, w3, _, [(g, dmO day (.slice fa fN fc) hv1 tv1 (s1.steps + 1) false), (gc, cdO rg (.slice aW nW cW) (.slice aI nI cI)), (gR, rgO r.regs), (g9, .cells (iC ⟨28, xa, xb, xc, xn, xs, xt⟩).toArray 72 (0, 0))], hr3, by rw [show anyM _ = [(g9, .cells (iC ⟨28, xa, xb, xc, xn, xs, xt⟩).toArray 72 (0, 0))] from by kernel_chk]; exact hold1v k9, hold_in (by simpa using ⟨k0, kc, kR, k9⟩), hnd', hI3.stay ⟨_, _, _, k0, by decide, by decide⟩ (hids kc kR k9), ?_⟩
    refine Goes.run [11, 12] [] trivial ?_
    refine Goes.lone1 13 (TookS.runV 13 0 [3] [] [g, gc, gR, g9] (by simp) ?_)
    refine Goes.run [0, 0] [] trivial ?_
    exact Goes.at (K := erT) (n := 228) (S := eST g gc gR g9 (r) (false)) (m := [(g, dmO day (.slice fa fN fc) (.slice (some ⟨b, 0, none⟩) (s1.holds.length + 1) c') tv1 (s1.one.hold xn r.f).steps (decide (((s1.holds.length + 1 : Nat) : Int) > 250))), (gc, cdO rg (.slice aW nW cW) (.slice aI nI cI)), (gR, rgO (r).regs), (g9, .cells (iC ⟨28, xa, xb, xc, xn, xs, xt⟩).toArray 72 (0, 0))]) (fun J => tl (r) (false) (s1.one.hold xn r.f) (decide (((s1.holds.length + 1 : Nat) : Int) > 250)) (.slice (some ⟨b, 0, none⟩) (s1.holds.length + 1) c') tv1 (hok _ _) J) (by kernel_chk) (by kernel_chk) (by kernel_chk)
  · refine Goes.lone1 4 (TookS.runV 4 0 [3] [] [g, gc, gR, g9, gb] (by simp) ?_)
    refine Goes.lone1 10 (TookS.effM 10 (Builtin.append_ #[37, 37] 37 #[hv1, .slice (some ⟨gb, 0, none⟩) 1 1]) fun w2 hm2 hn2 hI2 hM2 => ?_)
    have z1 : w2.heap[gb]? = some (.cells #[.int .i64 xn, .int .i64 r.f] 86 (0, 0)) := hm2.get 4
    have y0 : w2.heap[g]? = some (dmO day (.slice fa fN fc) hv1 tv1 (s1.steps + 1) false) := hm2.get 0
    have yc : w2.heap[gc]? = some (cdO rg (.slice aW nW cW) (.slice aI nI cI)) := hm2.get 1
    have yR : w2.heap[gR]? = some (rgO r.regs) := hm2.get 2
    have y9 : w2.heap[g9]? = some (.cells (iC ⟨28, xa, xb, xc, xn, xs, xt⟩).toArray 72 (0, 0)) := hm2.get 3
    obtain ⟨b, c', w3, hr3, hI3, hk3⟩ := hI2.now.live (Nat.le_trans hBw.size hI2.now.1.size) (xn, r.f) z1 (by have := hH1; have e : s1.one.holds = s1.holds := rfl; rw [e] at this; omega) (ty := 37) (c := 1)
    have k0 : w3.heap[g]? = some (dmO day (.slice fa fN fc) hv1 tv1 (s1.steps + 1) false) := hk3 g _ _ _ y0 (by decide)
    have kc : w3.heap[gc]? = some (cdO rg (.slice aW nW cW) (.slice aI nI cI)) := hk3 gc _ _ _ yc (by decide)
    have kR : w3.heap[gR]? = some (rgO r.regs) := rg_kept hk3 yR
    have k9 : w3.heap[g9]? = some (.cells (iC ⟨28, xa, xb, xc, xn, xs, xt⟩).toArray 72 (0, 0)) := hk3 g9 _ _ _ y9 (by decide)
    refine ⟨_, w3, _, [(g, dmO day (.slice fa fN fc) hv1 tv1 (s1.steps + 1) false), (gc, cdO rg (.slice aW nW cW) (.slice aI nI cI)), (gR, rgO r.regs), (g9, .cells (iC ⟨28, xa, xb, xc, xn, xs, xt⟩).toArray 72 (0, 0))], hr3, by rw [show anyM _ = [(g9, .cells (iC ⟨28, xa, xb, xc, xn, xs, xt⟩).toArray 72 (0, 0))] from by kernel_chk]; exact hold1v k9, hold_in (by simpa using ⟨k0, kc, kR, k9⟩), hnd', hI3.stay ⟨_, _, _, k0, by decide, by decide⟩ (hids kc kR k9), ?_⟩
    refine Goes.run [11, 12] [] trivial ?_
    refine Goes.lone1 13 (TookS.runV 13 0 [3] [] [g, gc, gR, g9] (by simp) ?_)
    refine Goes.run [0, 0] [] trivial ?_
    exact Goes.at (K := erT) (n := 228) (S := eST g gc gR g9 (r) (false)) (m := [(g, dmO day (.slice fa fN fc) (.slice (some ⟨b, 0, none⟩) (s1.holds.length + 1) c') tv1 (s1.one.hold xn r.f).steps (decide (((s1.holds.length + 1 : Nat) : Int) > 250))), (gc, cdO rg (.slice aW nW cW) (.slice aI nI cI)), (gR, rgO (r).regs), (g9, .cells (iC ⟨28, xa, xb, xc, xn, xs, xt⟩).toArray 72 (0, 0))]) (fun J => tl (r) (false) (s1.one.hold xn r.f) (decide (((s1.holds.length + 1 : Nat) : Int) > 250)) (.slice (some ⟨b, 0, none⟩) (s1.holds.length + 1) c') tv1 (hok _ _) J) (by kernel_chk) (by kernel_chk) (by kernel_chk)
end
end Go.Proofs.YtddbiiejilcbbaaGreatDoor
namespace Go.Proofs.YtddbiiejilcbbaaGreatDoor
open Go Go.RowKit

section
variable {w0 w : World} {k : Kd} {fs : Fs} {fa aW aI : Option Addr} {fN fc nW cW nI cI : Nat} {rg day : Int} {g gc gR g9 : Nat} {hv tv hv1 tv1 : Value} {sh : List (Int × Int)} {so : List (List UInt8 × Int)} {N M i : Nat} {R : Ms × Bool} {s1 : Ms} {r : Rg} {Q : Ending → World → Prop}

set_option maxHeartbeats 4000000 in
set_option maxRecDepth 100000 in
seal rn rnN rnS Goes ans atEnd put0 put putM opened openedY putA0 putA oneSt st0 keep mkSt newSt rgO erH erS erT in
theorem ed_30 {xa xb xc xn xt : Int} {xs : List UInt8} (h : ∀ w', w'.heap[g]? = some (dmO day (.slice fa fN fc) hv1 tv1 (s1.steps + 1) false) → McI w0.heap.size g day w hv tv hv1 tv1 s1.holds s1.out w' → Q (.returned (.tuple #[])) w') (J : Nat → Value) : Goes Tryz.prog (bodyPost Tryz.prog Tryz.f21 Q) (McI w0.heap.size g day w hv tv hv1 tv1 s1.holds s1.out) ⟨erS, fr 228 (eS9 g gc gR g9 r) J, [(g, dmO day (.slice fa fN fc) hv1 tv1 (s1.steps + 1) false), (gc, cdO rg (.slice aW nW cW) (.slice aI nI cI)), (gR, rgO r.regs), (g9, .cells (iC ⟨30, xa, xb, xc, xn, xs, xt⟩).toArray 72 (0, 0))]⟩ := by
  refine Goes.run [3, 1] [(true, true)] ⟨rfl, trivial⟩ ?_
  exact Goes.ret [] (.tuple #[]) fun w' hm hI => h w' (hm.get 0) hI.now
set_option maxHeartbeats 4000000 in
set_option maxRecDepth 100000 in
seal rn rnN rnS Goes ans atEnd put0 put putM opened openedY putA0 putA oneSt st0 keep mkSt newSt rgO erH erS erT in
theorem ed_29 {xa xb xc xn xt : Int} {xs : List UInt8} (H : CaseE w0 w k fs fa aW aI fN fc nW cW nI cI rg day g gc gR g9 hv tv sh so N M i s1 r ⟨29, xa, xb, xc, xn, xs, xt⟩) (ih : RunDt w0 k fs fa fN fc rg aW nW cW aI nI cI day g M) (hRun : (bif (runD k fs day M ⟨zeros, entK k xn, r.f⟩ s1.one).2 then runD k fs day M ⟨zeros, entK k xn, r.f⟩ s1.one else runD k fs day M r (runD k fs day M ⟨zeros, entK k xn, r.f⟩ s1.one).1) = R) (tl : TailE w0 w k fs fa aW aI fN fc nW cW nI cI rg day g gc gR g9 hv tv N M R Q ⟨29, xa, xb, xc, xn, xs, xt⟩) (J : Nat → Value) : Goes Tryz.prog (bodyPost Tryz.prog Tryz.f21 Q) (McI w0.heap.size g day w hv tv hv1 tv1 s1.holds s1.out) ⟨erS, fr 228 (eS9 g gc gR g9 r) J, [(g, dmO day (.slice fa fN fc) hv1 tv1 (s1.steps + 1) false), (gc, cdO rg (.slice aW nW cW) (.slice aI nI cI)), (gR, rgO r.regs), (g9, .cells (iC ⟨29, xa, xb, xc, xn, xs, xt⟩).toArray 72 (0, 0))]⟩ := by
  obtain ⟨h0, hg0, hBw, hl, ht, hge, hgc, hgR, hg9, hnd, hX, hs, hFit, hFit1, hov, hH1, hLeft, hMost, hon⟩ := id H
  obtain ⟨wn0, wn1⟩ := hX.wait (.inr rfl)
  replace wn0 : 0 ≤ xn := wn0
  replace wn1 : xn < (k.waits.length : Int) := wn1
  obtain ⟨ce0, ce1⟩ := hX.call rfl
  replace ce0 : 0 ≤ entK k xn := ce0
  replace ce1 : entK k xn < (k.ins.length : Int) := ce1
  obtain ⟨m, rfl⟩ : ∃ m : Nat, xn = (m : Int) := ⟨xn.toNat, by omega⟩
  have hmW : m < nW := by rw [← h0.code.lw]; omega
  obtain ⟨y, hy⟩ : ∃ y, k.waits[m]? = some y := ⟨k.waits[m]'(by omega), by simp⟩
  obtain ⟨-, bW, oW, rfl, hbW, hcW⟩ := h0.code.waits m y hy
  obtain ⟨obW, hobW⟩ := obj_ofV hbW
  have hent : entK k (m : Int) = y.entry := by unfold entK; rw [Int.toNat_natCast, hy]
  rw [hent] at hRun ce0 ce1
  obtain ⟨at', hat⟩ : ∃ a : Nat, y.entry = (a : Int) := ⟨y.entry.toNat, by omega⟩
  rw [hat] at hRun ce0 ce1
  obtain ⟨hsame, hsame2⟩ := run_same k fs day M ⟨zeros, (at' : Int), r.f⟩ s1.one hov
  obtain ⟨S2, hS2⟩ : ∃ S2, runD k fs day M ⟨zeros, (at' : Int), r.f⟩ s1.one = S2 := ⟨_, rfl⟩
  rw [hS2] at hRun hsame hsame2
  obtain ⟨m2, b2⟩ := S2
  replace hRun : (bif b2 then (m2, b2) else runD k fs day M r m2) = R := hRun
  replace hsame : b2 = overM (runP k fs day M ⟨zeros, (at' : Int), r.f⟩ s1.one) := hsame
  replace hsame2 : b2 = false → m2 = runP k fs day M ⟨zeros, (at' : Int), r.f⟩ s1.one := hsame2
  have hok : ∀ hv' tv', LpE.ok k fs day N R ⟨r.go xt false, m2, b2, M, hv', tv'⟩ := fun hv' tv' => ⟨by
    show (bif b2 then (m2, true) else runD k fs day M r m2) = R
    cases b2 with
    | true => exact hRun
    | false => exact hRun, by show M ≤ N; omega, fun hb => by
      replace hb : b2 = false := hb
      have hm2 := hsame2 hb
      have h1 := (runP_steps k fs day M ⟨zeros, (at' : Int), r.f⟩ s1.one).1
      replace h1 : s1.steps + 1 ≤ (runP k fs day M ⟨zeros, (at' : Int), r.f⟩ s1.one).steps := h1
      rw [← hm2] at h1
      exact ⟨hm2 ▸ runP_fit k fs day M _ _ hFit1, by show overM m2 = false; rw [hm2, ← hsame]; exact hb, by show 65538 ≤ m2.steps + (M : Int); omega, by show 0 ≤ r.next ∧ r.next < _; rw [hon]; have := hX.next (by show ((29 : Int)) ≠ 30; decide); omega⟩⟩
  have hloc : Loc5 w [(gc, cdO rg (.slice (some ⟨bW, oW, none⟩) nW cW) (.slice aI nI cI)), (gR, rgO r.regs), (g9, .cells (iC ⟨29, xa, xb, xc, (m : Int), xs, xt⟩).toArray 72 (0, 0))] := fun q hq => by
    simp only [List.mem_cons, List.not_mem_nil, or_false] at hq
    rcases hq with rfl | rfl | rfl
    · exact ⟨hgc, _, _, _, rfl, by decide⟩
    · exact ⟨hgR, rg_cells _⟩
    · exact ⟨hg9, _, _, _, rfl, by decide⟩
  refine Goes.run [3, 0, 0, 0, 0, 0, 0, 0, 0, 0, 0, 0, 0, 0, 0, 1] [(true, true), (false, false), (false, false), (false, false), (false, false), (false, false), (false, false), (false, false), (false, false), (false, false), (false, false), (false, false), (false, false), (false, false), (false, false)] ⟨rfl, rfl, rfl, rfl, rfl, rfl, rfl, rfl, rfl, rfl, rfl, rfl, rfl, rfl, rfl, trivial⟩ ?_
  refine Goes.openY [1, 3] [(bW, obW)] (fun w' hI => hold1v (((hBv hg0 hBw hl ht hI).block bW hbW).trans hobW)) ?_
  refine Goes.run [0, 1, 0, 2, 3, 0, 4, 5, 1, 9] [] trivial ?_
  refine Goes.valA 6 (Instr.indexAt 24 (.slice (some ⟨bW, oW, none⟩) nW cW) (.int .i64 m)) (.pointer (some ⟨bW, oW + m * 5, none⟩)) (fun w' _ => idxWk bW oW nW cW m hmW w') ?_
  refine Goes.run [7] [] trivial ?_
  refine Goes.valA 8 (Instr.loadAt 3 (.pointer (some ⟨bW, oW + m * 5, none⟩))) (.int .i64 at') (fun w' hm => by rw [← hat]; exact load1 Tryz.isAgg3 (hcW.objV hobW (hm.get 2) 0 _ rfl)) ?_
  refine Goes.callVQA 10 21 #[.pointer (some ⟨g, 0, none⟩), cdV rg (some ⟨bW, oW, none⟩) nW cW aI nI cI, .int .i64 at', .int .i64 r.f] (.tuple #[]) (dmB day (.slice fa fN fc) (s1.steps + 1) false) (dmB day (.slice fa fN fc) m2.steps b2) (dmB_is _ _ _ _) (dmB_is _ _ _ _) m2.holds m2.out [(gc, cdO rg (.slice (some ⟨bW, oW, none⟩) nW cW) (.slice aI nI cI)), (gR, rgO r.regs), (g9, .cells (iC ⟨29, xa, xb, xc, (m : Int), xs, xt⟩).toArray 72 (0, 0))] hloc [(gc, cdO rg (.slice (some ⟨bW, oW, none⟩) nW cW) (.slice aI nI cI)), (g9, .cells (iC ⟨29, xa, xb, xc, (m : Int), xs, xt⟩).toArray 72 (0, 0)), (bW, obW)] (fun q hq => by
    simp only [List.mem_cons, List.not_mem_nil, or_false] at hq
    rcases hq with rfl | rfl | rfl
    · exact .inr ⟨_, _, _, rfl, by decide⟩
    · exact .inr ⟨_, _, _, rfl, by decide⟩
    · exact .inl hbW) hg0 hBw.size (fun w1 hm1 hI1 => by have := ih at' r.f w1 hv1 tv1 s1.one (hBv hg0 hBw hl ht hI1) hI1.2.1 hI1.2.2.1 (hm1.get 0) (by omega) hFit1 hov (by show 65538 ≤ s1.steps + 1 + (M : Int); omega); rw [hS2] at this; exact this) fun hv2 tv2 => ?_
  refine Goes.run [] [] trivial ?_
  exact Goes.at (K := erT) (n := 228) (S := eST g gc gR g9 (r) (false)) (m := [(g, dmO day (.slice fa fN fc) hv2 tv2 (m2).steps b2), (gc, cdO rg (.slice (some ⟨bW, oW, none⟩) nW cW) (.slice aI nI cI)), (gR, rgO (r).regs), (g9, .cells (iC ⟨29, xa, xb, xc, (m : Int), xs, xt⟩).toArray 72 (0, 0))]) (fun J => tl (r) (false) (m2) b2 hv2 tv2 (hok hv2 tv2) J) (by kernel_chk) (by kernel_chk) (by kernel_chk)
end
end Go.Proofs.YtddbiiejilcbbaaGreatDoor
namespace Go.Proofs.YtddbiiejilcbbaaGreatDoor
open Go Go.RowKit

section
variable {w0 w : World} {k : Kd} {fs : Fs} {fa aW aI : Option Addr} {fN fc nW cW nI cI : Nat} {rg day : Int} {g g6 g7 : Nat} {hv tv hv1 tv1 : Value} {sh : List (Int × Int)} {so : List (List UInt8 × Int)} {N M i : Nat} {R s1 : Ms} {r : Rg} {x : Ik} {Q : Ending → World → Prop}

set_option maxHeartbeats 4000000 in
set_option maxRecDepth 100000 in
seal rn rnN rnS Goes ans atEnd put0 put putM opened openedY putA0 putA oneSt st0 st0S offL keep mkSt newSt newOS rnO ruH ruS in
theorem run_pay {xa xb xc xn xt : Int} {xs : List UInt8} (H : CaseH w0 w k fs fa aW aI fN fc nW cW nI cI rg day g g6 g7 hv tv sh so N M i s1 r ⟨27, xa, xb, xc, xn, xs, xt⟩) (hRun : runP k fs day M r.on (s1.one.pay xs r.f) = R) (bk : BackTo w0 w k fs fa aW aI fN fc nW cW nI cI rg day g g6 hv tv N M R Q) (J : Nat → Value) : Goes Tryz.prog (bodyPost Tryz.prog Tryz.f31 Q) (McI w0.heap.size g day w hv tv hv1 tv1 s1.holds s1.out) ⟨ruS, fr 84 (uS g g6 ++ [(7, .pointer (some ⟨g7, 0, none⟩))]) J, [(g, vmO day (.slice fa fN fc) rg (.slice aW nW cW) (.slice aI nI cI) hv1 tv1 (s1.steps + 1)), (g6, rnO r.on), (g7, .cells (iC ⟨27, xa, xb, xc, xn, xs, xt⟩).toArray 72 (0, 0))]⟩ := by
  obtain ⟨h0, hg0, hBw, hl, ht, hge, hg6, hg7, hne, hX, hFit, hFit1, hH1, hLeft, hMost, hon⟩ := H
  have hloc : ∀ r1 : Rg, Loc5 w [(g6, rnO r1), (g7, .cells (iC ⟨27, xa, xb, xc, xn, xs, xt⟩).toArray 72 (0, 0))] := fun r1 q hq => by
    simp only [List.mem_cons, List.not_mem_nil, or_false] at hq
    rcases hq with rfl | rfl
    · exact ⟨hg6, rn_cells r1⟩
    · exact ⟨hg7, _, _, _, rfl, by decide⟩
  refine Goes.run [2, 0, 0, 0, 1, 2] [(true, true), (false, false), (false, false), (false, false)] ⟨rfl, rfl, rfl, rfl, trivial⟩ ?_
  refine Goes.val (Instr.loadAt 2 (.pointer (some ⟨g6, 257, none⟩))) (.int .i64 r.f) (fun w' hm _ => rn_ldF (r := r.on) (hm.get 1)) ?_
  refine Goes.callVQ 66 #[.pointer (some ⟨g, 0, none⟩), strV xs, .int .i64 r.f] (.tuple #[]) (vmB day (.slice fa fN fc) rg (.slice aW nW cW) (.slice aI nI cI) (s1.steps + 1)) (vmB day (.slice fa fN fc) rg (.slice aW nW cW) (.slice aI nI cI) (s1.steps + 1)) (vmB_is _ _ _ _ _ _) (vmB_is _ _ _ _ _ _) s1.holds (s1.out ++ bif r.f == 0 then [] else [(xs, r.f)]) [(g6, rnO r.on), (g7, .cells (iC ⟨27, xa, xb, xc, xn, xs, xt⟩).toArray 72 (0, 0))] (hloc r.on) (fun w1 hm1 hI1 => vpay_any hI1.2.1 hI1.2.2.1 (hm1.get 0) (Nat.le_trans hBw.size hI1.1.size) xs r.f (by have := hFit.out; have := hFit.hi; omega)) fun hv2 tv2 => ?_
  refine Goes.run [] [] trivial ?_
  refine Goes.keep 2 ?_
  exact Goes.at (K := ruH) (n := 84) (S := uS g g6) (m := [(g, vmO day (.slice fa fN fc) rg (.slice aW nW cW) (.slice aI nI cI) hv2 tv2 (s1.steps + 1)), (g6, rnO (r.on))]) (fun J => bk (r.on) (s1.one.pay xs r.f) M hv2 tv2 ⟨hRun, hFit.pay xs r.f hFit1, by show 65538 ≤ s1.steps + 1 + (M : Int); omega, by show M ≤ N; omega, by show 0 ≤ r.on.next ∧ r.on.next < _; rw [hon]; have := hX.next (show ((27 : Int)) ≠ 30 by decide); omega⟩ (by omega) J) (by kernel_chk) (by kernel_chk) (by kernel_chk)
set_option maxHeartbeats 4000000 in
set_option maxRecDepth 100000 in
seal rn rnN rnS Goes ans atEnd put0 put putM opened openedY putA0 putA oneSt st0 st0S offL keep mkSt newSt newOS rnO ruH ruS in
theorem run_rest (H : CaseH w0 w k fs fa aW aI fN fc nW cW nI cI rg day g g6 g7 hv tv sh so N M i s1 r x) (h30 : (x.op == 30) = false) (h29 : (x.op == 29) = false) (h28 : (x.op == 28) = false) (h27 : (x.op == 27) = false) (hRun : runP k fs day M (doQ fs day x r.on) s1.one = R) (bk : BackTo w0 w k fs fa aW aI fN fc nW cW nI cI rg day g g6 hv tv N M R Q) (J : Nat → Value) : Goes Tryz.prog (bodyPost Tryz.prog Tryz.f31 Q) (McI w0.heap.size g day w hv tv hv1 tv1 s1.holds s1.out) ⟨ruS, fr 84 (uS g g6 ++ [(7, .pointer (some ⟨g7, 0, none⟩))]) J, [(g, vmO day (.slice fa fN fc) rg (.slice aW nW cW) (.slice aI nI cI) hv1 tv1 (s1.steps + 1)), (g6, rnO r.on), (g7, .cells (iC x).toArray 72 (0, 0))]⟩ := by
  obtain ⟨h0, hg0, hBw, hl, ht, hge, hg6, hg7, hne, hX, hFit, hFit1, hH1, hLeft, hMost, hon⟩ := H
  refine Goes.run [2, 0, 0, 0, 0] [(x.op == 27, false), (x.op == 28, false), (x.op == 29, false), (x.op == 30, false)] ⟨h27, h28, h29, h30, trivial⟩ ?_
  refine Goes.open [0, 2] ?_
  refine Goes.run [0, 1, 1, 2, 3, 4, 0] [] trivial ?_
  refine Goes.callK 5 1 g6 67 #[.pointer (some ⟨g6, 0, none⟩), iV x, dwV day (.slice fa fN fc)] (.tuple #[]) (rnO (doQ fs day x r.on)) (fun w' hm hI => vdo_any (hm.get 1) h0.rf (h0.en (hBv hg0 hBw hl ht hI.now)) (Nat.le_trans hBw.size hg6) h0.day hX) [(g, vmO day (.slice fa fN fc) rg (.slice aW nW cW) (.slice aI nI cI) hv1 tv1 (s1.steps + 1)), (g7, .cells (iC x).toArray 72 (0, 0))] (fun q hq => by simp at hq; rcases hq with rfl | rfl <;> simp only <;> omega) ?_
  refine Goes.run [] [] trivial ?_
  refine Goes.keep 2 ?_
  exact Goes.at (K := ruH) (n := 84) (S := uS g g6) (m := [(g, vmO day (.slice fa fN fc) rg (.slice aW nW cW) (.slice aI nI cI) hv1 tv1 (s1.steps + 1)), (g6, rnO (doQ fs day x r.on))]) (fun J => bk (doQ fs day x r.on) (s1.one) M hv1 tv1 ⟨hRun, hFit1, by show 65538 ≤ s1.steps + 1 + (M : Int); omega, by show M ≤ N; omega, doQ_next hX (fun e => by rw [e] at h30; cases h30) fs day hon⟩ (by omega) J) (by kernel_chk) (by kernel_chk) (by kernel_chk)
set_option maxHeartbeats 4000000 in
set_option maxRecDepth 100000 in
seal rn rnN rnS Goes ans atEnd put0 put putM opened openedY putA0 putA oneSt st0 st0S offL keep mkSt newSt newOS rnO ruH ruS in
theorem run_end {xa xb xc xn xt : Int} {xs : List UInt8} (h : ∀ w', w'.heap[g]? = some (vmO day (.slice fa fN fc) rg (.slice aW nW cW) (.slice aI nI cI) hv1 tv1 (s1.steps + 1)) → McI w0.heap.size g day w hv tv hv1 tv1 s1.holds s1.out w' → Q (.returned (.tuple #[])) w') (J : Nat → Value) : Goes Tryz.prog (bodyPost Tryz.prog Tryz.f31 Q) (McI w0.heap.size g day w hv tv hv1 tv1 s1.holds s1.out) ⟨ruS, fr 84 (uS g g6 ++ [(7, .pointer (some ⟨g7, 0, none⟩))]) J, [(g, vmO day (.slice fa fN fc) rg (.slice aW nW cW) (.slice aI nI cI) hv1 tv1 (s1.steps + 1)), (g6, rnO r.on), (g7, .cells (iC ⟨30, xa, xb, xc, xn, xs, xt⟩).toArray 72 (0, 0))]⟩ := by
  refine Goes.run [2, 1] [(true, true)] ⟨rfl, trivial⟩ ?_
  exact Goes.ret [] (.tuple #[]) fun w' hm hI => h w' (hm.get 0) hI.now
end
end Go.Proofs.YtddbiiejilcbbaaGreatDoor
namespace Go.Proofs.YtddbiiejilcbbaaGreatDoor
open Go Go.RowKit

section
variable {w0 w : World} {k : Kd} {fs : Fs} {fa aW aI : Option Addr} {fN fc nW cW nI cI : Nat} {rg day : Int} {g g6 g7 : Nat} {hv tv hv1 tv1 : Value} {sh : List (Int × Int)} {so : List (List UInt8 × Int)} {N M i : Nat} {R s1 : Ms} {r : Rg} {x : Ik} {Q : Ending → World → Prop}

set_option maxHeartbeats 4000000 in
set_option maxRecDepth 100000 in
seal rn rnN rnS Goes ans atEnd put0 put putM opened openedY putA0 putA oneSt st0 st0S offL keep mkSt newSt newOS rnO ruH ruS in
theorem run_wait {xa xb xc xn xt : Int} {xs : List UInt8} (H : CaseH w0 w k fs fa aW aI fN fc nW cW nI cI rg day g g6 g7 hv tv sh so N M i s1 r ⟨28, xa, xb, xc, xn, xs, xt⟩) (hRun : runP k fs day M r.on (s1.one.hold xn r.f) = R) (bk : BackTo w0 w k fs fa aW aI fN fc nW cW nI cI rg day g g6 hv tv N M R Q) (J : Nat → Value) : Goes Tryz.prog (bodyPost Tryz.prog Tryz.f31 Q) (McI w0.heap.size g day w hv tv hv1 tv1 s1.holds s1.out) ⟨ruS, fr 84 (uS g g6 ++ [(7, .pointer (some ⟨g7, 0, none⟩))]) J, [(g, vmO day (.slice fa fN fc) rg (.slice aW nW cW) (.slice aI nI cI) hv1 tv1 (s1.steps + 1)), (g6, rnO r.on), (g7, .cells (iC ⟨28, xa, xb, xc, xn, xs, xt⟩).toArray 72 (0, 0))]⟩ := by
  obtain ⟨h0, hg0, hBw, hl, ht, hge, hg6, hg7, hne, hX, hFit, hFit1, hH1, hLeft, hMost, hon⟩ := H
  have hnd : (Mem.ids [(g, vmO day (.slice fa fN fc) rg (.slice aW nW cW) (.slice aI nI cI) hv1 tv1 (s1.steps + 1)), (g6, rnO r.on), (g7, .cells (iC ⟨28, xa, xb, xc, xn, xs, xt⟩).toArray 72 (0, 0))]).Nodup := by simp [Mem.ids]; omega
  have hids : ∀ {w3 : World}, w3.heap[g6]? = some (rnO r.on) → w3.heap[g7]? = some (.cells (iC ⟨28, xa, xb, xc, xn, xs, xt⟩).toArray 72 (0, 0)) → ∀ x ∈ Mem.ids [(g, vmO day (.slice fa fN fc) rg (.slice aW nW cW) (.slice aI nI cI) hv1 tv1 (s1.steps + 1)), (g6, rnO r.on), (g7, .cells (iC ⟨28, xa, xb, xc, xn, xs, xt⟩).toArray 72 (0, 0))], x = g ∨ (w.heap.size ≤ x ∧ ∃ c e z, w3.heap[x]? = some (.cells c e z) ∧ ty5 e = false) := fun k6 k7 x hx => by
    simp only [Mem.ids, List.map_cons, List.map_nil, List.mem_cons, List.not_mem_nil, or_false] at hx
    rcases hx with rfl | rfl | rfl
    · exact .inl rfl
    · exact .inr ⟨hg6, rn_blk k6⟩
    · exact .inr ⟨hg7, _, _, _, k7, by decide⟩
  refine Goes.run [2, 0, 0, 1] [(true, true), (false, false), (false, false)] ⟨rfl, rfl, rfl, trivial⟩ ?_
  refine Goes.open [1, 2] ?_
  refine Goes.run [0, 1, 2, 3, 5, 6, 1, 7, 12, 13] [] trivial ?_
  refine Goes.valA 8 (Instr.loadAt 2 (.pointer (some ⟨g6, 257, none⟩))) (.int .i64 r.f) (fun w' hm => rn_ldF (r := r.on) (hm.get 0)) ?_
  refine Goes.run [9] [] trivial ?_
  refine Goes.two 4 10 (TookS.runV 4 0 [1, 2] [] [g, g6, g7] (by simp) ?_) (TookS.new1V 10 w.heap.size [1, 2] [] [g, g6, g7] (by simp) (fun w' h => h.1.size) fun gb hgb => ?_)
  · refine Goes.lone1 10 (TookS.new1V 10 w.heap.size [1, 2] [] [g, g6, g7] (by simp) (fun w' h => h.1.size) fun gb hgb => ?_)
    refine Goes.lone1 11 (TookS.effM 11 (Builtin.append_ #[37, 37] 37 #[hv1, .slice (some ⟨gb, 0, none⟩) 1 1]) fun w2 hm2 hn2 hI2 hM2 => ?_)
    have z1 : w2.heap[gb]? = some (.cells #[.int .i64 xn, .int .i64 r.f] 86 (0, 0)) := hm2.get 3
    have y0 : w2.heap[g]? = some (vmO day (.slice fa fN fc) rg (.slice aW nW cW) (.slice aI nI cI) hv1 tv1 (s1.steps + 1)) := hm2.get 0
    have y6 : w2.heap[g6]? = some (rnO r.on) := hm2.get 1
    have y7 : w2.heap[g7]? = some (.cells (iC ⟨28, xa, xb, xc, xn, xs, xt⟩).toArray 72 (0, 0)) := hm2.get 2
    obtain ⟨b, c', w3, hr3, hI3, hk3⟩ := hI2.now.live (Nat.le_trans hBw.size hI2.now.1.size) (xn, r.f) z1 (by have := hH1; have e : s1.one.holds = s1.holds := rfl; rw [e] at this; omega) (ty := 37) (c := 1)
    have k0 : w3.heap[g]? = some (vmO day (.slice fa fN fc) rg (.slice aW nW cW) (.slice aI nI cI) hv1 tv1 (s1.steps + 1)) := hk3 g _ _ _ y0 (by decide)
    have k6 : w3.heap[g6]? = some (rnO r.on) := rn_kept hk3 y6
    have k7 : w3.heap[g7]? = some (.cells (iC ⟨28, xa, xb, xc, xn, xs, xt⟩).toArray 72 (0, 0)) := hk3 g7 _ _ _ y7 (by decide)
    refine ⟨_, w3, _, [(g, vmO day (.slice fa fN fc) rg (.slice aW nW cW) (.slice aI nI cI) hv1 tv1 (s1.steps + 1)), (g6, rnO r.on), (g7, .cells (iC ⟨28, xa, xb, xc, xn, xs, xt⟩).toArray 72 (0, 0))], hr3, by rw [show anyM _ = [(g6, rnO r.on), (g7, .cells (iC ⟨28, xa, xb, xc, xn, xs, xt⟩).toArray 72 (0, 0))] from by kernel_chk]; exact holds2v k6 k7, hold_in (by simpa using ⟨k0, k6, k7⟩), hnd, hI3.stay ⟨_, _, _, k0, by decide, by decide⟩ (hids k6 k7), ?_⟩
    refine Goes.run [12, 13] [] trivial ?_
    refine Goes.lone1 14 (TookS.runV 14 0 [1, 2] [] [g, g6, g7] (by simp) ?_)
    refine Goes.run [] [] trivial ?_
    refine Goes.keep 2 ?_
    exact Goes.at (K := ruH) (n := 84) (S := uS g g6) (m := [(g, vmO day (.slice fa fN fc) rg (.slice aW nW cW) (.slice aI nI cI) (.slice (some ⟨b, 0, none⟩) (s1.holds.length + 1) c') tv1 (s1.steps + 1)), (g6, rnO r.on)]) (fun J => bk r.on (s1.one.hold xn r.f) M _ tv1 ⟨hRun, hFit1.hold hH1 xn r.f, by show 65538 ≤ s1.steps + 1 + (M : Int); omega, by show M ≤ N; omega, by show 0 ≤ r.on.next ∧ r.on.next < _; rw [hon]; have := hX.next (show ((28 : Int)) ≠ 30 by decide); omega⟩ (by omega) J) (by kernel_chk) (by kernel_chk) (by kernel_chk)
  · refine Goes.lone1 4 (TookS.runV 4 0 [1, 2] [] [g, g6, g7, gb] (by simp) ?_)
    refine Goes.lone1 11 (TookS.effM 11 (Builtin.append_ #[37, 37] 37 #[hv1, .slice (some ⟨gb, 0, none⟩) 1 1]) fun w2 hm2 hn2 hI2 hM2 => ?_)
    have z1 : w2.heap[gb]? = some (.cells #[.int .i64 xn, .int .i64 r.f] 86 (0, 0)) := hm2.get 3
    have y0 : w2.heap[g]? = some (vmO day (.slice fa fN fc) rg (.slice aW nW cW) (.slice aI nI cI) hv1 tv1 (s1.steps + 1)) := hm2.get 0
    have y6 : w2.heap[g6]? = some (rnO r.on) := hm2.get 1
    have y7 : w2.heap[g7]? = some (.cells (iC ⟨28, xa, xb, xc, xn, xs, xt⟩).toArray 72 (0, 0)) := hm2.get 2
    obtain ⟨b, c', w3, hr3, hI3, hk3⟩ := hI2.now.live (Nat.le_trans hBw.size hI2.now.1.size) (xn, r.f) z1 (by have := hH1; have e : s1.one.holds = s1.holds := rfl; rw [e] at this; omega) (ty := 37) (c := 1)
    have k0 : w3.heap[g]? = some (vmO day (.slice fa fN fc) rg (.slice aW nW cW) (.slice aI nI cI) hv1 tv1 (s1.steps + 1)) := hk3 g _ _ _ y0 (by decide)
    have k6 : w3.heap[g6]? = some (rnO r.on) := rn_kept hk3 y6
    have k7 : w3.heap[g7]? = some (.cells (iC ⟨28, xa, xb, xc, xn, xs, xt⟩).toArray 72 (0, 0)) := hk3 g7 _ _ _ y7 (by decide)
    refine ⟨_, w3, _, [(g, vmO day (.slice fa fN fc) rg (.slice aW nW cW) (.slice aI nI cI) hv1 tv1 (s1.steps + 1)), (g6, rnO r.on), (g7, .cells (iC ⟨28, xa, xb, xc, xn, xs, xt⟩).toArray 72 (0, 0))], hr3, by rw [show anyM _ = [(g6, rnO r.on), (g7, .cells (iC ⟨28, xa, xb, xc, xn, xs, xt⟩).toArray 72 (0, 0))] from by kernel_chk]; exact holds2v k6 k7, hold_in (by simpa using ⟨k0, k6, k7⟩), hnd, hI3.stay ⟨_, _, _, k0, by decide, by decide⟩ (hids k6 k7), ?_⟩
    refine Goes.run [12, 13] [] trivial ?_
    refine Goes.lone1 14 (TookS.runV 14 0 [1, 2] [] [g, g6, g7] (by simp) ?_)
    refine Goes.run [] [] trivial ?_
    refine Goes.keep 2 ?_
    exact Goes.at (K := ruH) (n := 84) (S := uS g g6) (m := [(g, vmO day (.slice fa fN fc) rg (.slice aW nW cW) (.slice aI nI cI) (.slice (some ⟨b, 0, none⟩) (s1.holds.length + 1) c') tv1 (s1.steps + 1)), (g6, rnO r.on)]) (fun J => bk r.on (s1.one.hold xn r.f) M _ tv1 ⟨hRun, hFit1.hold hH1 xn r.f, by show 65538 ≤ s1.steps + 1 + (M : Int); omega, by show M ≤ N; omega, by show 0 ≤ r.on.next ∧ r.on.next < _; rw [hon]; have := hX.next (show ((28 : Int)) ≠ 30 by decide); omega⟩ (by omega) J) (by kernel_chk) (by kernel_chk) (by kernel_chk)
end
end Go.Proofs.YtddbiiejilcbbaaGreatDoor
namespace Go.Proofs.YtddbiiejilcbbaaGreatDoor
open Go Go.RowKit

section
variable {w0 w : World} {k : Kd} {fs : Fs} {fa aW aI : Option Addr} {fN fc nW cW nI cI : Nat} {rg day : Int} {g g6 g7 : Nat} {hv tv hv1 tv1 : Value} {sh : List (Int × Int)} {so : List (List UInt8 × Int)} {N M i : Nat} {R s1 : Ms} {r : Rg} {x : Ik} {Q : Ending → World → Prop}

set_option maxHeartbeats 4000000 in
set_option maxRecDepth 100000 in
seal rn rnN rnS Goes ans atEnd put0 put putM opened openedY putA0 putA oneSt st0 st0S offL keep mkSt newSt newOS rnO ruH ruS in
theorem run_call {xa xb xc xn xt : Int} {xs : List UInt8} (H : CaseH w0 w k fs fa aW aI fN fc nW cW nI cI rg day g g6 g7 hv tv sh so N M i s1 r ⟨29, xa, xb, xc, xn, xs, xt⟩) (ih : RunAt w0 k fs fa fN fc rg aW nW cW aI nI cI day g M) (hRun : runP k fs day M r.on (runP k fs day M ⟨zeros, entK k xn, r.f⟩ s1.one) = R) (bk : BackTo w0 w k fs fa aW aI fN fc nW cW nI cI rg day g g6 hv tv N M R Q) (J : Nat → Value) : Goes Tryz.prog (bodyPost Tryz.prog Tryz.f31 Q) (McI w0.heap.size g day w hv tv hv1 tv1 s1.holds s1.out) ⟨ruS, fr 84 (uS g g6 ++ [(7, .pointer (some ⟨g7, 0, none⟩))]) J, [(g, vmO day (.slice fa fN fc) rg (.slice aW nW cW) (.slice aI nI cI) hv1 tv1 (s1.steps + 1)), (g6, rnO r.on), (g7, .cells (iC ⟨29, xa, xb, xc, xn, xs, xt⟩).toArray 72 (0, 0))]⟩ := by
  obtain ⟨h0, hg0, hBw, hl, ht, hge, hg6, hg7, hne, hX, hFit, hFit1, hH1, hLeft, hMost, hon⟩ := H
  obtain ⟨wn0, wn1⟩ := hX.wait (.inr rfl)
  replace wn0 : 0 ≤ xn := wn0
  replace wn1 : xn < (k.waits.length : Int) := wn1
  obtain ⟨ce0, ce1⟩ := hX.call rfl
  replace ce0 : 0 ≤ entK k xn := ce0
  replace ce1 : entK k xn < (k.ins.length : Int) := ce1
  obtain ⟨m, rfl⟩ : ∃ m : Nat, xn = (m : Int) := ⟨xn.toNat, by omega⟩
  have hmW : m < nW := by rw [← h0.code.lw]; omega
  obtain ⟨y, hy⟩ : ∃ y, k.waits[m]? = some y := ⟨k.waits[m]'(by omega), by simp⟩
  obtain ⟨-, bW, oW, rfl, hbW, hcW⟩ := h0.code.waits m y hy
  obtain ⟨obW, hobW⟩ := obj_ofV hbW
  have hent : entK k (m : Int) = y.entry := by unfold entK; rw [Int.toNat_natCast, hy]
  rw [hent] at hRun ce0 ce1
  obtain ⟨at', hat⟩ : ∃ a : Nat, y.entry = (a : Int) := ⟨y.entry.toNat, by omega⟩
  rw [hat] at hRun ce0 ce1
  obtain ⟨S2, hS2⟩ : ∃ S2, runP k fs day M ⟨zeros, (at' : Int), r.f⟩ s1.one = S2 := ⟨_, rfl⟩
  rw [hS2] at hRun
  have hfit2 : S2.Fit := by rw [← hS2]; exact runP_fit k fs day M _ _ hFit1
  have hst2 : s1.steps + 1 ≤ S2.steps := by rw [← hS2]; exact (runP_steps k fs day M _ s1.one).1
  have hloc : ∀ r1 : Rg, Loc5 w [(g6, rnO r1), (g7, .cells (iC ⟨29, xa, xb, xc, (m : Int), xs, xt⟩).toArray 72 (0, 0))] := fun r1 q hq => by
    simp only [List.mem_cons, List.not_mem_nil, or_false] at hq
    rcases hq with rfl | rfl
    · exact ⟨hg6, rn_cells r1⟩
    · exact ⟨hg7, _, _, _, rfl, by decide⟩
  have hex : ∀ q ∈ [(bW, obW)], q.1 ∉ [g, g6, g7] := fun q hq hm => by
    have := hBw.size
    simp only [List.mem_cons, List.not_mem_nil, or_false] at hq hm
    subst hq
    rcases hm with h | h | h <;> simp only at h <;> omega
  refine Goes.run [2, 0, 1] [(true, true), (false, false)] ⟨rfl, rfl, trivial⟩ ?_
  refine Goes.openY [1, 2] [(bW, obW)] (fun w' hI => hold1v (((hBv hg0 hBw hl ht hI).block bW hbW).trans hobW)) ?_
  refine Goes.run [0, 1, 2, 3, 4, 6, 7, 1, 11] [] trivial ?_
  refine Goes.valA 12 (Instr.loadAt 2 (.pointer (some ⟨g6, 257, none⟩))) (.int .i64 r.f) (fun w' hm => rn_ldF (r := r.on) (hm.get 0)) ?_
  refine Goes.lone1 5 (TookS.runV 5 0 [1, 2] [(bW, obW)] [g, g6, g7] hex ?_)
  refine Goes.valA 8 (Instr.indexAt 24 (.slice (some ⟨bW, oW, none⟩) nW cW) (.int .i64 m)) (.pointer (some ⟨bW, oW + m * 5, none⟩)) (fun w' _ => idxWk bW oW nW cW m hmW w') ?_
  refine Goes.run [9] [] trivial ?_
  refine Goes.valA 10 (Instr.loadAt 3 (.pointer (some ⟨bW, oW + m * 5, none⟩))) (.int .i64 at') (fun w' hm => by rw [← hat]; exact load1 Tryz.isAgg3 (hcW.objV hobW (hm.get 2) 0 _ rfl)) ?_
  refine Goes.callVQA 13 31 #[.pointer (some ⟨g, 0, none⟩), .int .i64 at', .int .i64 r.f] (.tuple #[]) (vmB day (.slice fa fN fc) rg (.slice (some ⟨bW, oW, none⟩) nW cW) (.slice aI nI cI) (s1.steps + 1)) (vmB day (.slice fa fN fc) rg (.slice (some ⟨bW, oW, none⟩) nW cW) (.slice aI nI cI) S2.steps) (vmB_is _ _ _ _ _ _) (vmB_is _ _ _ _ _ _) S2.holds S2.out [(g6, rnO r.on), (g7, .cells (iC ⟨29, xa, xb, xc, (m : Int), xs, xt⟩).toArray 72 (0, 0))] (hloc r.on) [(g6, rnO r.on), (g7, .cells (iC ⟨29, xa, xb, xc, (m : Int), xs, xt⟩).toArray 72 (0, 0)), (bW, obW)] (fun q hq => by
    simp only [List.mem_cons, List.not_mem_nil, or_false] at hq
    rcases hq with rfl | rfl | rfl
    · exact .inr (rn_cells _)
    · exact .inr ⟨_, _, _, rfl, by decide⟩
    · exact .inl hbW) hg0 hBw.size (fun w1 hm1 hI1 => by have := ih at' r.f w1 hv1 tv1 s1.one (hBv hg0 hBw hl ht hI1) hI1.2.1 hI1.2.2.1 (hm1.get 0) (by omega) hFit1 (by show 65538 ≤ s1.steps + 1 + (M : Int); omega); rw [hS2] at this; exact this) fun hv2 tv2 => ?_
  refine Goes.run [] [] trivial ?_
  refine Goes.keep 2 ?_
  exact Goes.at (K := ruH) (n := 84) (S := uS g g6) (m := [(g, vmO day (.slice fa fN fc) rg (.slice (some ⟨bW, oW, none⟩) nW cW) (.slice aI nI cI) hv2 tv2 S2.steps), (g6, rnO r.on)]) (fun J => bk r.on S2 M hv2 tv2 ⟨hRun, hfit2, by show 65538 ≤ S2.steps + (M : Int); omega, by show M ≤ N; omega, by show 0 ≤ r.on.next ∧ r.on.next < _; rw [hon]; have := hX.next (show ((29 : Int)) ≠ 30 by decide); omega⟩ (by omega) J) (by kernel_chk) (by kernel_chk) (by kernel_chk)
end
end Go.Proofs.YtddbiiejilcbbaaGreatDoor
namespace Go.Proofs.YtddbiiejilcbbaaGreatDoor
open Go Go.RowKit

theorem Goes.nd {P : Program} {F : Exit → Act → World → Prop} {Inv : World → Prop} {s : St} (L : List Nat) (h : L.Nodup → Goes P F Inv s) (hL : s.mem.ids = L := by kernel_chk) : Goes P F Inv s := fun w hm hn hI => h (hL ▸ hn) w hm hn hI
section
variable {w0 : World} {k : Kd} {fs : Fs} {fa aW aI : Option Addr} {fN fc nW cW nI cI : Nat} {rg day : Int} {g : Nat}
set_option maxHeartbeats 4000000 in
set_option maxRecDepth 100000 in
seal rn rnN rnS Goes ans atEnd put0 put putM opened openedY putA0 putA oneSt st0 st0S offL keep mkSt newSt newOS rnO ruH ruS in
theorem run_step (h0 : Rn0 w0 k fs fa fN fc rg aW nW cW aI nI cI day) (hg0 : w0.heap.size ≤ g) {N : Nat} (ih : ∀ M, M < N → RunAt w0 k fs fa fN fc rg aW nW cW aI nI cI day g M) : RunAt w0 k fs fa fN fc rg aW nW cW aI nI cI day g N := by
  intro at' f w hv tv s hBw hl ht hg hat hfit hN
  obtain ⟨R, hR⟩ : ∃ R, runP k fs day N ⟨zeros, at', f⟩ s = R := ⟨_, rfl⟩
  rw [hR]
  have hlen := right_len h0.right
  have hnw : w0.heap.size ≤ w.heap.size := hBw.size
  have hge : g < w.heap.size := lt_of_get hg
  refine Goes.enterS Tryz.func31 [(g, vmO day (.slice fa fN fc) rg (.slice aW nW cW) (.slice aI nI cI) hv tv s.steps)] (McI w0.heap.size g day w hv tv hv tv s.holds s.out) (hold1v hg) (by simp [Mem.ids]) ((McI.refl hl ht).stay ⟨_, _, _, hg, by decide, by decide⟩ (fun x hx => .inl (by simpa [Mem.ids] using hx))) ?_
  refine Goes.run [] [] trivial ?_
  refine Goes.new1 w.heap.size (fun w' h => h.1.size) fun g6 hg6 => ?_
  refine Goes.run [1] [] trivial ?_
  refine Goes.label ?_
  refine Goes.run [] [] trivial ?_
  refine Goes.at (K := ruH) (n := 84) (S := uS g g6) (m := [(g, vmO day (.slice fa fN fc) rg (.slice aW nW cW) (.slice aI nI cI) hv tv s.steps), (g6, rnO ⟨zeros, (at' : Int), f⟩)]) (fun J0 => ?_) (by kernel_chk) (by kernel_chk) (by kernel_chk)
  refine Goes.loop (α := LpU) 84 (fun x => uS g g6) (fun x => [(g, vmO day (.slice fa fN fc) rg (.slice aW nW cW) (.slice aI nI cI) x.hv x.tv x.s.steps), (g6, rnO x.r)]) (fun x => McI w0.heap.size g day w hv tv x.hv x.tv x.s.holds x.s.out) (LpU.ok k fs day N R) (fun x => x.M) ⟨⟨zeros, at', f⟩, s, N, hv, tv⟩ ⟨hR, hfit, hN, Nat.le_refl _, by show 0 ≤ (at' : Int) ∧ (at' : Int) < _; omega⟩ (fun w' h => h) ?_
  rintro ⟨r, s1, M, hv1, tv1⟩ J ⟨hRun, hFit, hLeft, hMost, hNext⟩ back
  replace hRun : runP k fs day M r s1 = R := hRun
  replace hFit : s1.Fit := hFit
  replace hLeft : 65538 ≤ s1.steps + (M : Int) := hLeft
  replace hMost : M ≤ N := hMost
  replace hNext : 0 ≤ r.next ∧ r.next < (k.ins.length : Int) := hNext
  show Goes _ _ (McI w0.heap.size g day w hv tv hv1 tv1 s1.holds s1.out) ⟨ruH, fr 84 (uS g g6) J, [(g, vmO day (.slice fa fN fc) rg (.slice aW nW cW) (.slice aI nI cI) hv1 tv1 s1.steps), (g6, rnO r)]⟩
  refine Goes.pure (Q := ∃ ah ch, hv1 = .slice ah s1.holds.length ch) (fun w' h => own_form h.2.1) ?_
  rintro ⟨ah, ch, rfl⟩
  refine Goes.run [0] [] trivial ?_
  refine Goes.call0 65 #[.pointer (some ⟨g, 0, none⟩)] (.bool (overM s1)) (fun w' hm hI => vtoo_any (show w'.heap[g]? = some (vmO day (.slice fa fN fc) rg (.slice aW nW cW) (.slice aI nI cI) (.slice ah s1.holds.length ch) tv1 s1.steps) from hm.get 0)) ?_
  cases hov : overM s1 with
  | true =>
    rw [runP_over hov] at hRun
    subst hRun
    refine Goes.run [0] [(false, false)] ⟨rfl, trivial⟩ ?_
    exact Goes.ret [] (.tuple #[]) fun w' hm hI => ⟨_, tv1, rfl, hm.get 0, hI.now⟩
  | false =>
  obtain ⟨ov1, ov2⟩ := over_iff.1 hov
  obtain ⟨hFit1, hH1⟩ := hFit.one hov
  obtain ⟨i, hi⟩ : ∃ i : Nat, r.next = (i : Int) := ⟨r.next.toNat, by omega⟩
  have hiI : i < nI := by rw [← h0.code.li]; omega
  obtain ⟨x, hx⟩ : ∃ x, k.ins[i]? = some x := ⟨k.ins[i]'(by omega), by simp⟩
  have hX := right_x h0.right hx
  obtain ⟨M', rfl⟩ : ∃ M', M = M' + 1 := ⟨M - 1, by omega⟩
  rw [runP_at hov hi hx] at hRun
  obtain ⟨-, bI, oI, rfl, hbI, hcI⟩ := h0.code.ins i x hx
  obtain ⟨obI, hobI0⟩ := obj_ofV hbI
  refine Goes.run [1, 0, 0] [(true, true)] ⟨rfl, trivial⟩ ?_
  refine Goes.objs [(g, vmO day (.slice fa fN fc) rg (.slice aW nW cW) (.slice (some ⟨bI, oI, none⟩) nI cI) (.slice ah s1.holds.length ch) tv1 (s1.steps + 1)), (g6, rnO r)] (fun w' h => holds2v (by have := h.get 0 (b := g) (o := vmO day (.slice fa fN fc) rg (.slice aW nW cW) (.slice (some ⟨bI, oI, none⟩) nI cI) (.slice ah s1.holds.length ch) tv1 (IntKind.i64.wrap (s1.steps + 1))); rwa [IntWalk.i64_in _ ⟨by have := hFit.lo; omega, by omega⟩] at this) (h.get 1)) ?_
  refine Goes.openY [0, 1] [(bI, obI)] (fun w' hI => hold1v (((hBv hg0 hBw hl ht hI).block bI hbI).trans hobI0)) ?_
  have hex2 : ∀ q ∈ [(bI, obI)], q.1 ∉ [g, g6] := fun q hq hm => by
    simp only [List.mem_cons, List.not_mem_nil, or_false] at hq hm
    subst hq
    rcases hm with h | h <;> simp only at h <;> omega
  refine Goes.run [0, 1, 2, 3, 4, 0, 5] [] trivial ?_
  refine Goes.valA 6 (Instr.loadAt 3 (.pointer (some ⟨g6, 256, none⟩))) (.int .i64 (i : Int)) (fun w' hm => by rw [← hi]; exact rn_ldN (hm.get 1)) ?_
  refine Goes.valA 7 (Instr.indexAt 25 (.slice (some ⟨bI, oI, none⟩) nI cI) (.int .i64 i)) (.pointer (some ⟨bI, oI + i * 7, none⟩)) (fun w' _ => idxIk bI oI nI cI i hiI w') ?_
  refine Goes.valA 8 (Instr.loadAt 72 (.pointer (some ⟨bI, oI + i * 7, none⟩))) (iV x) (fun w' hm => loadI (hcI.objV hobI0 (hm.get 2))) ?_
  refine Goes.lone1 9 (TookS.new1V 9 w.heap.size [0, 1] [(bI, obI)] [g, g6] hex2 (fun w' h => h.1.size) fun g7 hg7 => ?_)
  refine Goes.nd [g, g6, g7] (fun hnd => ?_)
  have hne : g6 ≠ g7 := by simp at hnd; exact hnd.2
  have hex3 : ∀ q ∈ [(bI, obI)], q.1 ∉ [g, g6, g7] := fun q hq hm => by
    simp only [List.mem_cons, List.not_mem_nil, or_false] at hq hm
    subst hq
    rcases hm with h | h | h <;> simp only at h <;> omega
  refine Goes.lone1 10 (TookS.runV 10 2 [0, 1] [(bI, obI)] [g, g6, g7] hex3 ?_)
  refine Goes.run [] [] trivial ?_
  refine Goes.val (Instr.loadAt 3 (.pointer (some ⟨g6, 256, none⟩))) (.int .i64 (i : Int)) (fun w' hm _ => by rw [← hi]; exact rn_ldN (hm.get 1)) ?_
  refine Goes.run [] [] trivial ?_
  refine Goes.slot 32 (.int .i64 ((i : Int) + 1)) (u := .int .i64 (IntKind.i64.wrap ((i : Int) + 1))) (congrArg _ (IntWalk.i64_in _ ⟨by omega, by omega⟩)) ?_
  have hON : r.on = r.go ((i : Int) + 1) true := by rw [← hi]; rfl
  refine Goes.stoK 1 g6 (Instr.storeAt 3 (.pointer (some ⟨g6, 256, none⟩)) (.int .i64 ((i : Int) + 1))) (rnO r.on) (fun w' hm => by rw [hON]; exact rn_stN (show w'.heap[g6]? = some (rnO r) from hm.get 1) ((i : Int) + 1)) ?_
  have hon : r.on.next = ((i + 1 : Nat) : Int) := by show r.next + 1 = _; rw [hi]; rfl
  refine Goes.at (K := ruS) (n := 84) (S := uS g g6 ++ [(7, .pointer (some ⟨g7, 0, none⟩))]) (m := [(g, vmO day (.slice fa fN fc) rg (.slice aW nW cW) (.slice (some ⟨bI, oI, none⟩) nI cI) (.slice ah s1.holds.length ch) tv1 (s1.steps + 1)), (g6, rnO r.on), (g7, .cells (iC x).toArray 72 (0, 0))]) (fun J1 => ?_) (by kernel_chk) (by kernel_chk) (by kernel_chk)
  have H : CaseH w0 w k fs fa aW (some ⟨bI, oI, none⟩) fN fc nW cW nI cI rg day g g6 g7 hv tv s.holds s.out N M' i s1 r x := ⟨h0, hg0, hBw, hl, ht, hge, hg6, hg7, hne, hX, hFit, hFit1, hH1, hLeft, hMost, hon⟩
  have bk : BackTo w0 w k fs fa aW (some ⟨bI, oI, none⟩) fN fc nW cW nI cI rg day g g6 hv tv N M' R (VQ w0.heap.size g day (vmB day (.slice fa fN fc) rg (.slice aW nW cW) (.slice (some ⟨bI, oI, none⟩) nI cI) R.steps) w hv tv (.tuple #[]) R.holds R.out) := fun r' s' M2 hv' tv' hok hlt J2 => back ⟨r', s', M2, hv', tv'⟩ ⟨ruH, fr 84 (uS g g6) J2, [(g, vmO day (.slice fa fN fc) rg (.slice aW nW cW) (.slice (some ⟨bI, oI, none⟩) nI cI) hv' tv' s'.steps), (g6, rnO r')]⟩ hok hlt rfl (by kernel_chk) rfl
  cases h30 : (x.op == 30) with
  | true =>
    rw [h30] at hRun
    replace hRun : s1.one = R := hRun
    subst hRun
    obtain ⟨xo, xa, xb, xc, xn, xs, xt⟩ := x
    obtain rfl : xo = 30 := by simpa using h30
    exact run_end (fun w' h hI => ⟨_, _, rfl, h, hI⟩) J1
  | false =>
  rw [h30] at hRun
  cases h29 : (x.op == 29) with
  | true =>
    rw [h29] at hRun
    obtain ⟨xo, xa, xb, xc, xn, xs, xt⟩ := x
    obtain rfl : xo = 29 := by simpa using h29
    exact run_call H (ih M' (by omega)) hRun bk J1
  | false =>
  rw [h29] at hRun
  cases h28 : (x.op == 28) with
  | true =>
    rw [h28] at hRun
    obtain ⟨xo, xa, xb, xc, xn, xs, xt⟩ := x
    obtain rfl : xo = 28 := by simpa using h28
    exact run_wait H hRun bk J1
  | false =>
  rw [h28] at hRun
  cases h27 : (x.op == 27) with
  | true =>
    rw [h27] at hRun
    obtain ⟨xo, xa, xb, xc, xn, xs, xt⟩ := x
    obtain rfl : xo = 27 := by simpa using h27
    exact run_pay H hRun bk J1
  | false =>
  rw [h27] at hRun
  exact run_rest H h30 h29 h28 h27 hRun bk J1
/-- The program's run is the plain one. -/
theorem run_all (h0 : Rn0 w0 k fs fa fN fc rg aW nW cW aI nI cI day) (hg0 : w0.heap.size ≤ g) (N : Nat) : RunAt w0 k fs fa fN fc rg aW nW cW aI nI cI day g N := by
  induction N using Nat.strongRecOn with
  | _ N ih => exact run_step h0 hg0 ih
end
end Go.Proofs.YtddbiiejilcbbaaGreatDoor
namespace Go.Proofs.YtddbiiejilcbbaaGreatDoor
open Go Go.RowKit

theorem runD_at {k : Kd} {fs : Fs} {day : Int} {n i : Nat} {r : Rg} {s : Ms} {x : Ik} (hr : r.next = (i : Int)) (hx : k.ins[i]? = some x) : runD k fs day (n + 1) r s = bif decide (s.one.steps > 65536) then (s.one, true) else
      bif x.op == 30 then (s.one, false) else
      bif x.op == 29 then (bif (runD k fs day n ⟨zeros, entK k x.n, r.f⟩ s.one).2 then runD k fs day n ⟨zeros, entK k x.n, r.f⟩ s.one else runD k fs day n r.on (runD k fs day n ⟨zeros, entK k x.n, r.f⟩ s.one).1) else
      bif x.op == 28 then (bif decide (((s.one.hold x.n r.f).holds.length : Int) > 250) then (s.one.hold x.n r.f, true) else runD k fs day n r.on (s.one.hold x.n r.f)) else
      bif x.op == 27 then runD k fs day n r.on (s.one.pay x.s r.f) else
      runD k fs day n (doQ fs day x r.on) s.one := by
  rw [runD, hr, Int.toNat_natCast, hx]
section
variable {w0 : World} {k : Kd} {fs : Fs} {fa aW aI : Option Addr} {fN fc nW cW nI cI : Nat} {rg day : Int} {g : Nat}
set_option maxHeartbeats 4000000 in
set_option maxRecDepth 100000 in
seal rn rnN rnS Goes ans atEnd put0 put putM opened openedY putA0 putA oneSt st0 keep mkSt newSt rgO erH erS erT in
theorem der_step (h0 : Rn0 w0 k fs fa fN fc rg aW nW cW aI nI cI day) (hg0 : w0.heap.size ≤ g) {N : Nat} (ih : ∀ M, M < N → RunDt w0 k fs fa fN fc rg aW nW cW aI nI cI day g M) : RunDt w0 k fs fa fN fc rg aW nW cW aI nI cI day g N := by
  intro at' f w hv tv s hBw hl ht hg hat hfit hov hN
  obtain ⟨R, hR⟩ : ∃ R, runD k fs day N ⟨zeros, at', f⟩ s = R := ⟨_, rfl⟩
  rw [hR]
  have hlen := right_len h0.right
  have hnw : w0.heap.size ≤ w.heap.size := hBw.size
  have hge : g < w.heap.size := lt_of_get hg
  refine Goes.enter Tryz.func21 [(g, dmO day (.slice fa fN fc) hv tv s.steps false)] (McI w0.heap.size g day w hv tv hv tv s.holds s.out) (hold1v hg) (by simp [Mem.ids]) ((McI.refl hl ht).stay ⟨_, _, _, hg, by decide, by decide⟩ (fun x hx => .inl (by simpa [Mem.ids] using hx))) ?_
  refine Goes.run [] [] trivial ?_
  refine Goes.new1 w.heap.size (fun w' h => h.1.size) fun gc hgc => ?_
  refine Goes.run [] [] trivial ?_
  refine Goes.eff (Instr.makeSlice 101 (.int .i64 256) (.int .i64 256)) fun w1 hm1 hn1 hI1 => ?_
  have y0 : w1.heap[g]? = some (dmO day (.slice fa fN fc) hv tv s.steps false) := hm1.get 0
  have yc : w1.heap[gc]? = some (cdO rg (.slice aW nW cW) (.slice aI nI cI)) := hm1.get 1
  have hmk := makeG w1
  have hgw : gc < w1.heap.size := lt_of_get yc
  have hlast := heap_alloc_last w1 (rgO zeros)
  have hB1 : Below w1.heap.size w1 (w1.alloc (rgO zeros)) := (Below.refl _ _).alloc (Nat.le_refl _) _
  have hsz : w.heap.size ≤ w1.heap.size := hI1.now.1.size
  obtain ⟨gR, hgRe⟩ : ∃ n, w1.heap.size = n := ⟨_, rfl⟩
  rw [hgRe] at hmk hlast hgw hsz
  have k0 : (w1.alloc (rgO zeros)).heap[g]? = some (dmO day (.slice fa fN fc) hv tv s.steps false) := (hB1.block g (by omega)).trans y0
  have kc : (w1.alloc (rgO zeros)).heap[gc]? = some (cdO rg (.slice aW nW cW) (.slice aI nI cI)) := (hB1.block gc (by omega)).trans yc
  have hgR : w.heap.size ≤ gR := hsz
  refine ⟨slG gR, w1.alloc (rgO zeros), McI w0.heap.size g day w hv tv hv tv s.holds s.out, [(g, dmO day (.slice fa fN fc) hv tv s.steps false), (gc, cdO rg (.slice aW nW cW) (.slice aI nI cI)), (gR, rgO zeros)], hmk, hold_in (by simpa using ⟨k0, kc, hlast⟩), by simp [Mem.ids]; omega, (hI1.bel hB1).now.stay ⟨_, _, _, k0, by decide, by decide⟩ (fun y hy => ?_), ?_⟩
  · simp only [Mem.ids, List.map_cons, List.map_nil, List.mem_cons, List.not_mem_nil, or_false] at hy
    rcases hy with rfl | rfl | rfl
    · exact .inl rfl
    · exact .inr ⟨hgc, _, _, _, kc, by decide⟩
    · exact .inr ⟨hgR, rg_blk hlast⟩
  refine Goes.run [] [] trivial ?_
  refine Goes.at (K := erH) (n := 228) (S := eS g gc gR ⟨zeros, (at' : Int), f⟩) (m := [(g, dmO day (.slice fa fN fc) hv tv s.steps false), (gc, cdO rg (.slice aW nW cW) (.slice aI nI cI)), (gR, rgO zeros)]) (fun J0 => ?_) (by kernel_chk) (by kernel_chk) (by kernel_chk)
  refine Goes.loop (α := LpE) 228 (fun x => eS g gc gR x.r) (fun x => [(g, dmO day (.slice fa fN fc) x.hv x.tv x.s.steps x.bad), (gc, cdO rg (.slice aW nW cW) (.slice aI nI cI)), (gR, rgO x.r.regs)]) (fun x => McI w0.heap.size g day w hv tv x.hv x.tv x.s.holds x.s.out) (LpE.ok k fs day N R) (fun x => x.M) ⟨⟨zeros, at', f⟩, s, false, N, hv, tv⟩ ⟨hR, Nat.le_refl _, fun _ => ⟨hfit, hov, hN, by show 0 ≤ (at' : Int) ∧ (at' : Int) < _; omega⟩⟩ (fun w' h => h) ?_
  rintro ⟨⟨rR, nx, rf⟩, s1, bad, M, hv1, tv1⟩ J ⟨hRun, hMost, hfine⟩ back
  show Goes _ _ (McI w0.heap.size g day w hv tv hv1 tv1 s1.holds s1.out) ⟨erH, fr 228 (eS g gc gR ⟨rR, nx, rf⟩) J, [(g, dmO day (.slice fa fN fc) hv1 tv1 s1.steps bad), (gc, cdO rg (.slice aW nW cW) (.slice aI nI cI)), (gR, rgO rR)]⟩
  cases bad with
  | true =>
    replace hRun : (s1, true) = R := hRun
    subst hRun
    refine Goes.run [0, 0, 0] [(false, false)] ⟨rfl, trivial⟩ ?_
    exact Goes.ret [] (.tuple #[]) fun w' hm hI => ⟨hv1, tv1, rfl, hm.get 0, hI.now⟩
  | false =>
  obtain ⟨hFit, hov1, hLeft, hn0, hn1⟩ := hfine rfl
  replace hRun : runD k fs day M ⟨rR, nx, rf⟩ s1 = R := hRun
  replace hFit : s1.Fit := hFit
  replace hov1 : overM s1 = false := hov1
  replace hLeft : 65538 ≤ s1.steps + (M : Int) := hLeft
  replace hMost : M ≤ N := hMost
  replace hn0 : 0 ≤ nx := hn0
  replace hn1 : nx < (k.ins.length : Int) := hn1
  obtain ⟨ov1, ov2⟩ := over_iff.1 hov1
  obtain ⟨hFit1, hH1⟩ := hFit.one hov1
  obtain ⟨i, rfl⟩ : ∃ i : Nat, nx = (i : Int) := ⟨nx.toNat, by omega⟩
  have hiI : i < nI := by rw [← h0.code.li]; omega
  obtain ⟨x, hx⟩ : ∃ x, k.ins[i]? = some x := ⟨k.ins[i]'(by omega), by simp⟩
  have hX := right_x h0.right hx
  obtain ⟨M', rfl⟩ : ∃ M', M = M' + 1 := ⟨M - 1, by omega⟩
  rw [runD_at (r := ⟨rR, (i : Int), rf⟩) rfl hx] at hRun
  obtain ⟨hs, bI, oI, rfl, hbI, hcI⟩ := h0.code.ins i x hx
  refine Goes.run [0, 0, 1, 1] [(true, true)] ⟨rfl, trivial⟩ ?_
  refine Goes.val (Instr.indexAt 25 (.slice (some ⟨bI, oI, none⟩) nI cI) (.int .i64 i)) (.pointer (some ⟨bI, oI + i * 7, none⟩)) (fun w' _ _ => idxIk bI oI nI cI i hiI w') ?_
  refine Goes.val (Instr.loadAt 72 (.pointer (some ⟨bI, oI + i * 7, none⟩))) (iV x) (fun w' hm hI => loadI (hcI.below hbI (hBv hg0 hBw hl ht hI.now))) ?_
  refine Goes.new1 w.heap.size (fun w' h => h.1.size) fun g9 hg9 => ?_
  refine Goes.run [3, 0, 0] [] trivial ?_
  refine Goes.nd [g, gc, gR, g9] (fun hnd => ?_)
  refine Goes.objs [(g, dmO day (.slice fa fN fc) hv1 tv1 (s1.steps + 1) false), (gc, cdO rg (.slice aW nW cW) (.slice (some ⟨bI, oI, none⟩) nI cI)), (gR, rgO rR), (g9, .cells (iC x).toArray 72 (0, 0))] (fun w' h => by
    have e0 := h.get 0 (b := g) (o := dmO day (.slice fa fN fc) hv1 tv1 (IntKind.i64.wrap (s1.steps + 1)) false)
    rw [IntWalk.i64_in _ ⟨by have := hFit.lo; omega, by omega⟩] at e0
    have e1 : w'.heap[gc]? = some (cdO rg (.slice aW nW cW) (.slice (some ⟨bI, oI, none⟩) nI cI)) := h.get 1
    have e2 : w'.heap[gR]? = some (rgO rR) := h.get 2
    have e3 : w'.heap[g9]? = some (.cells (iC x).toArray 72 (0, 0)) := h.get 3
    exact hold_in (by simpa using ⟨e0, e1, e2, e3⟩)) ?_
  refine Goes.slot 2 (.int .i64 ((i : Int) + 1)) (u := .int .i64 (IntKind.i64.wrap ((i : Int) + 1))) (congrArg _ (IntWalk.i64_in _ ⟨by omega, by omega⟩)) ?_
  cases hbig : decide (s1.steps + 1 > 65536) with
  | true =>
    rw [show decide (s1.one.steps > 65536) = true from hbig] at hRun
    replace hRun : (s1.one, true) = R := hRun
    subst hRun
    refine Goes.run [0, 1, 0] [(decide (s1.steps + 1 > 65536), true)] ⟨hbig, trivial⟩ ?_
    exact Goes.ret [] (.tuple #[]) fun w' hm hI => ⟨hv1, tv1, rfl, hm.get 0, hI.now⟩
  | false =>
  rw [show decide (s1.one.steps > 65536) = false from hbig] at hRun
  have hov2 : overM s1.one = false := over_iff.2 ⟨by have := of_decide_eq_false hbig; show s1.steps + 1 ≤ 65536; omega, hH1⟩
  refine Goes.run [0, 0] [(decide (s1.steps + 1 > 65536), false)] ⟨hbig, trivial⟩ ?_
  refine Goes.at (K := erS) (n := 228) (S := eS9 g gc gR g9 ⟨rR, (i : Int) + 1, rf⟩) (m := [(g, dmO day (.slice fa fN fc) hv1 tv1 (s1.steps + 1) false), (gc, cdO rg (.slice aW nW cW) (.slice (some ⟨bI, oI, none⟩) nI cI)), (gR, rgO rR), (g9, .cells (iC x).toArray 72 (0, 0))]) (fun J1 => ?_) (by kernel_chk) (by kernel_chk) (by kernel_chk)
  have H : CaseE w0 w k fs fa aW (some ⟨bI, oI, none⟩) fN fc nW cW nI cI rg day g gc gR g9 hv tv s.holds s.out N M' i s1 ⟨rR, (i : Int) + 1, rf⟩ x := ⟨h0, hg0, hBw, hl, ht, hge, hgc, hgR, hg9, hnd, hX, hs, hFit, hFit1, hov2, hH1, hLeft, hMost, rfl⟩
  have bk : BackE w0 w k fs fa aW (some ⟨bI, oI, none⟩) fN fc nW cW nI cI rg day g gc gR hv tv N M' R (VQ w0.heap.size g day (dmB day (.slice fa fN fc) R.1.steps R.2) w hv tv (.tuple #[]) R.1.holds R.1.out) := fun r' s' b' M2 hv' tv' hok hlt J2 => back ⟨r', s', b', M2, hv', tv'⟩ ⟨erH, fr 228 (eS g gc gR r') J2, [(g, dmO day (.slice fa fN fc) hv' tv' s'.steps b'), (gc, cdO rg (.slice aW nW cW) (.slice (some ⟨bI, oI, none⟩) nI cI)), (gR, rgO r'.regs)]⟩ hok hlt rfl (by kernel_chk) rfl
  have tl := fun (x : Ik) => tail_any (g9 := g9) (x := x) bk
  cases h30 : (x.op == 30) with
  | true =>
    obtain ⟨xo, xa, xb, xc, xn, xs, xt⟩ := x
    obtain rfl : xo = 30 := by simpa using h30
    replace hRun : (s1.one, false) = R := hRun
    subst hRun
    exact ed_30 (fun w' h hI => ⟨hv1, tv1, rfl, h, hI⟩) J1
  | false =>
  cases h1 : (x.op == 1) with
  | true =>
    obtain ⟨xo, xa, xb, xc, xn, xs, xt⟩ := x
    obtain rfl : xo = 1 := by simpa using h1
    exact ed_1 H hRun (tl _) J1
  | false =>
  cases h3 : (x.op == 3) with
  | true =>
    obtain ⟨xo, xa, xb, xc, xn, xs, xt⟩ := x
    obtain rfl : xo = 3 := by simpa using h3
    exact ed_3 H hRun (tl _) J1
  | false =>
  cases h2 : (x.op == 2) with
  | true =>
    obtain ⟨xo, xa, xb, xc, xn, xs, xt⟩ := x
    obtain rfl : xo = 2 := by simpa using h2
    exact ed_2 H hRun (tl _) J1
  | false =>
  cases h19 : (x.op == 19) with
  | true =>
    obtain ⟨xo, xa, xb, xc, xn, xs, xt⟩ := x
    obtain rfl : xo = 19 := by simpa using h19
    exact ed_19 H hRun (tl _) J1
  | false =>
  cases h20 : (x.op == 20) with
  | true =>
    obtain ⟨xo, xa, xb, xc, xn, xs, xt⟩ := x
    obtain rfl : xo = 20 := by simpa using h20
    exact ed_20 H hRun (tl _) J1
  | false =>
  cases h21 : (x.op == 21) with
  | true =>
    obtain ⟨xo, xa, xb, xc, xn, xs, xt⟩ := x
    obtain rfl : xo = 21 := by simpa using h21
    exact ed_21 H hRun (tl _) J1
  | false =>
  cases h22 : (x.op == 22) with
  | true =>
    obtain ⟨xo, xa, xb, xc, xn, xs, xt⟩ := x
    obtain rfl : xo = 22 := by simpa using h22
    exact ed_22 H hRun (tl _) J1
  | false =>
  cases h23 : (x.op == 23) with
  | true =>
    obtain ⟨xo, xa, xb, xc, xn, xs, xt⟩ := x
    obtain rfl : xo = 23 := by simpa using h23
    exact ed_23 H hRun (tl _) J1
  | false =>
  cases h24 : (x.op == 24) with
  | true =>
    obtain ⟨xo, xa, xb, xc, xn, xs, xt⟩ := x
    obtain rfl : xo = 24 := by simpa using h24
    exact ed_24 H hRun (tl _) J1
  | false =>
  cases h25 : (x.op == 25) with
  | true =>
    obtain ⟨xo, xa, xb, xc, xn, xs, xt⟩ := x
    obtain rfl : xo = 25 := by simpa using h25
    exact ed_25 H hRun (tl _) J1
  | false =>
  cases h26 : (x.op == 26) with
  | true =>
    obtain ⟨xo, xa, xb, xc, xn, xs, xt⟩ := x
    obtain rfl : xo = 26 := by simpa using h26
    exact ed_26 H hRun (tl _) J1
  | false =>
  cases h27 : (x.op == 27) with
  | true =>
    obtain ⟨xo, xa, xb, xc, xn, xs, xt⟩ := x
    obtain rfl : xo = 27 := by simpa using h27
    exact ed_27 H hRun (tl _) J1
  | false =>
  cases h28 : (x.op == 28) with
  | true =>
    obtain ⟨xo, xa, xb, xc, xn, xs, xt⟩ := x
    obtain rfl : xo = 28 := by simpa using h28
    exact ed_28 H hRun (tl _) J1
  | false =>
  cases h29 : (x.op == 29) with
  | true =>
    obtain ⟨xo, xa, xb, xc, xn, xs, xt⟩ := x
    obtain rfl : xo = 29 := by simpa using h29
    exact ed_29 H (ih M' (by omega)) hRun (tl _) J1
  | false =>
  rw [h30, h29, h28, h27] at hRun
  obtain ⟨xo, xa, xb, xc, xn, xs, xt⟩ := x
  exact ed_rest H h30 h1 h3 h2 h19 h20 h21 h22 h23 h24 h25 h26 h27 h28 h29 hRun (tl _) J1
/-- The document's run is the plain one. -/
theorem der_all (h0 : Rn0 w0 k fs fa fN fc rg aW nW cW aI nI cI day) (hg0 : w0.heap.size ≤ g) (N : Nat) : RunDt w0 k fs fa fN fc rg aW nW cW aI nI cI day g N := by
  induction N using Nat.strongRecOn with
  | _ N ih => exact der_step h0 hg0 ih
end
end Go.Proofs.YtddbiiejilcbbaaGreatDoor
namespace Go.Proofs.YtddbiiejilcbbaaGreatDoor
open Go Go.RowKit

theorem eqHd (a b c d : Int) (w : World) : (Op.equalIn 10000 86 (.agg #[.int .i64 a, .int .i64 b]) (.agg #[.int .i64 c, .int .i64 d])).run Tryz.prog w = .ok (a == c && b == d) w := by
  have u3 := Tryz.underlying3
  have a3 := Tryz.isAgg3
  have z3 := Tryz.sizeOf3
  have u2 := Tryz.underlying2
  have a2 := Tryz.isAgg2
  have z2 := Tryz.sizeOf2
  have hS : Tryz.prog.underlying 86 = some (.struct (Tryz.prog.fieldsOf 86)) := by kernel_rfl
  rw [show (10000 : Nat) = 9999 + 1 from rfl, run_equalIn_agg w 9999 86 _ _ hS (by kernel_rfl)]
  simp only [Program.fieldsOf, Tryz.underlying86]
  go_simp
  by_cases h1 : a = c <;> by_cases h2 : b = d <;> simp [h1, h2]
theorem sizeHd : (Tryz.prog.info? 86).map (·.size) = some 2 := by kernel_rfl
theorem cell_obj18 {w : World} {b i : Nat} {cur : Array Value} {t : TypeId} {z : Nat × Nat} {u : Value} (h : w.heap[b]? = some (.cells cur t z)) (hi : cur[i]? = some u) : w.cell? ⟨b, i, none⟩ = some u := by
  unfold World.cell?
  rw [h]
  simpa using hi
theorem loadHd {w : World} {b o : Nat} {x y : Value} (h0 : w.cell? ⟨b, o, none⟩ = some x) (h1 : w.cell? ⟨b, o + 1, none⟩ = some y) : (Instr.loadAt 86 (.pointer (some ⟨b, o, none⟩))).run Tryz.prog w = .ok (.agg #[x, y]) w := loadAgg Tryz.isAgg86 sizeHd [x, y] rfl (cells2 h0 h1)
theorem own_more {w : World} {b b1 e1 s1 n1 : Nat} {v1 : Value} {x1 : List Value} (h : w.ownsRow b1 e1 s1 v1 n1 x1) (hb : b ≤ b1) : w.ownsRow b e1 s1 v1 n1 x1 := by
  refine ⟨h.1, ?_⟩
  rcases h.2 with hn | ⟨g, cap, cur, e, h0, rest⟩
  · exact .inl hn
  · exact .inr ⟨g, cap, cur, e, by omega, rest⟩
theorem hdC_at : ∀ {l : List (Int × Int)} {i : Nat} {q : Int × Int}, l[i]? = some q → (hdC l)[i * 2]? = some (.int .i64 q.1) ∧ (hdC l)[i * 2 + 1]? = some (.int .i64 q.2)
  | [], i, q, h => by simp at h
  | x :: r, 0, q, h => by simp at h; subst h; exact ⟨rfl, rfl⟩
  | x :: r, i + 1, q, h => by
    obtain ⟨h1, h2⟩ := hdC_at (l := r) (i := i) (q := q) (by simpa using h)
    have e : hdC (x :: r) = [.int .i64 x.1, .int .i64 x.2] ++ hdC r := by unfold hdC; simp
    rw [e]
    constructor
    · rw [List.getElem?_append_right (by simp; omega)]; simpa [show (i + 1) * 2 - 2 = i * 2 by omega] using h1
    · rw [List.getElem?_append_right (by simp; omega)]; simpa [show (i + 1) * 2 + 1 - 2 = i * 2 + 1 by omega] using h2
theorem trC_at {day : Int} : ∀ {l : List (List UInt8 × Int)} {i : Nat} {q : List UInt8 × Int}, l[i]? = some q → ∀ j u, [Value.int .i64 day, strV q.1, .int .i64 q.2][j]? = some u → (trC day l)[i * 3 + j]? = some u
  | [], i, q, h => by simp at h
  | x :: r, 0, q, h => by
    simp at h; subst h
    intro j u hu
    have e : trC day (x :: r) = [.int .i64 day, strV x.1, .int .i64 x.2] ++ trC day r := by unfold trC; simp
    rw [e, Nat.zero_mul, Nat.zero_add, List.getElem?_append_left (by have := (List.getElem?_eq_some_iff.1 hu).1; simpa using this)]
    exact hu
  | x :: r, i + 1, q, h => by
    intro j u hu
    have h1 := trC_at (day := day) (l := r) (i := i) (q := q) (by simpa using h) j u hu
    have e : trC day (x :: r) = [.int .i64 day, strV x.1, .int .i64 x.2] ++ trC day r := by unfold trC; simp
    rw [e, List.getElem?_append_right (by simp; omega)]
    simpa [show (i + 1) * 3 + j - 3 = i * 3 + j by omega] using h1
/-- A row, opened. -/
theorem own_open {w : World} {b1 e1 s1 n1 : Nat} {v1 : Value} {x1 : List Value} (h : w.ownsRow b1 e1 s1 v1 n1 x1) (h0 : n1 ≠ 0) : ∃ g cap cur, v1 = .slice (some ⟨g, 0, none⟩) n1 cap ∧ w.heap[g]? = some (.cells cur e1 (0, 0)) ∧ n1 ≤ cap ∧ cap ≤ maxLen ∧ ∀ (i : Nat) (u : Value), x1[i]? = some u → cur[i]? = some u := by
  rcases h.2 with ⟨-, hn⟩ | ⟨g, cap, cur, e, -, hg, h1, h2, -, ht⟩
  · exact absurd hn h0
  · refine ⟨g, cap, cur, e, hg, h1, h2, fun i u hu => ?_⟩
    rw [← ht, List.getElem?_take] at hu
    split at hu
    · simpa using hu
    · cases hu
/-- What Begin and Step answer: holds, transfers, steps, the error. -/
structure R4 where
  holds : List (Int × Int)
  out : List (List UInt8 × Int)
  steps : Int
  err : Int
def BgQ (day : Int) (w : World) (r : R4) (e : Ending) (w' : World) : Prop := ∃ lv tv, e = .returned (.tuple #[lv, tv, .int .i64 r.steps, .int .i64 r.err]) ∧ Hds w.heap.size w' lv r.holds ∧ Trs w.heap.size day w' tv r.out ∧ Below w.heap.size w w'
section
variable {P : Program} {F : Exit → Act → World → Prop} {Inv : World → Prop} {s : St}
/-- Begin or Step is called. -/
theorem Goes.callBg (f : FuncId) (args : Array Value) (day : Int) (r : R4) (n0 : Nat) (hr : ∀ w1, Holds s.mem w1 → Stay s.mem.ids w1 Inv → Calls P f args w1 (BgQ day w1 r)) (hsz : ∀ w', Inv w' → n0 ≤ w'.heap.size)
    (h : ∀ aL cL aT cT, Goes P F (fun w' => Inv w' ∧ (Hds n0 w' (.slice aL r.holds.length cL) r.holds ∧ Trs n0 day w' (.slice aT r.out.length cT) r.out)) (put0 s (.tuple #[.slice aL r.holds.length cL, .slice aT r.out.length cT, .int .i64 r.steps, .int .i64 r.err])))
    (ha : ask s = some (f, args) := by kernel_rfl) (hw : wants s = true := by kernel_rfl) (hf : okf P f = true := by kernel_rfl) : Goes P F Inv s :=
  Goes.call f args (fun w1 hm hn hI => (hr w1 hm hI).mono fun e w2 ⟨lv, tv, he, hl, ht, hB⟩ => by
    obtain ⟨aL, cL, rfl⟩ := own_form hl
    obtain ⟨aT, cT, rfl⟩ := own_form ht
    have hn1 := hsz w1 hI.now
    have key : ∀ {b1 e1 s1 n1 : Nat} {v1 : Value} {x1 : List Value}, w2.ownsRow w1.heap.size e1 s1 v1 n1 x1 → ∀ b, v1.ownBlock = some b → b ∉ s.mem.ids := fun hr b hb hmem => by
      have h1 := (hr.lt b hb).1
      obtain ⟨q, hq, rfl⟩ := List.mem_map.1 hmem
      have := lt_of_get (in_hold hm q hq)
      omega
    exact ⟨_, _, s.mem, he, hm.bel hB, hn, fun w3 hc => ⟨hI.bel hB w3 hc, own_more (own_ch hl hc (key (b1 := 0) hl)) hn1, own_more (own_ch ht hc (key (b1 := 0) ht)) hn1⟩, h aL cL aT cT⟩) ha hw hf
end
theorem idxTr (b n cap k : Nat) (h : k < n) (w : World) : (Instr.indexAt 38 (.slice (some ⟨b, 0, none⟩) n cap) (.int .i64 k)).run Tryz.prog w = .ok (.pointer (some ⟨b, k * 3, none⟩)) w := by go_simp
theorem idxHd0 (b n cap k : Nat) (h : k < n) (w : World) : (Instr.indexAt 37 (.slice (some ⟨b, 0, none⟩) n cap) (.int .i64 k)).run Tryz.prog w = .ok (.pointer (some ⟨b, k * 2, none⟩)) w := by go_simp
theorem sizeTr : (Tryz.prog.info? 59).map (·.size) = some 3 := by kernel_rfl
theorem loadTr {w : World} {g : Nat} {cur : Array Value} {day : Int} {ts : List (List UInt8 × Int)} {i : Nat} {q : List UInt8 × Int} (hg : w.heap[g]? = some (.cells cur 59 (0, 0))) (hc : ∀ (i : Nat) (u : Value), (trC day ts)[i]? = some u → cur[i]? = some u) (hq : ts[i]? = some q) : (Instr.loadAt 59 (.pointer (some ⟨g, i * 3, none⟩))).run Tryz.prog w = .ok (.agg #[.int .i64 day, strV q.1, .int .i64 q.2]) w :=
  loadAgg Tryz.isAgg59 sizeTr [.int .i64 day, strV q.1, .int .i64 q.2] rfl fun j u hu => cell_obj18 hg (hc _ _ (trC_at hq j u hu))
theorem loadHdR {w : World} {g : Nat} {cur : Array Value} {ls : List (Int × Int)} {i : Nat} {q : Int × Int} (hg : w.heap[g]? = some (.cells cur 86 (0, 0))) (hc : ∀ (i : Nat) (u : Value), (hdC ls)[i]? = some u → cur[i]? = some u) (hq : ls[i]? = some q) : (Instr.loadAt 86 (.pointer (some ⟨g, i * 2, none⟩))).run Tryz.prog w = .ok (.agg #[.int .i64 q.1, .int .i64 q.2]) w :=
  loadHd (cell_obj18 hg (hc _ _ (hdC_at hq).1)) (cell_obj18 hg (hc _ _ (hdC_at hq).2))
theorem hex2 {w w' : World} {b b' : Nat} {ob ob' : Obj} (hb : w.heap[b]? = some ob) (hb' : w.heap[b']? = some ob') (h : Ch (Mem.ids []) w w') : Holds [(b, ob), (b', ob')] w' := hold_in (by simp only [List.forall_mem_cons, List.not_mem_nil, false_implies, implies_true, and_true]; exact ⟨(h.block b (lt_of_get hb) (by simp [Mem.ids])).trans hb, (h.block b' (lt_of_get hb') (by simp [Mem.ids])).trans hb'⟩)
set_option maxRecDepth 100000 in
seal rn rnN rnS Goes ans atEnd put0 put putM opened openedY putA0 putA oneSt st0 keep mkSt newSt in
theorem sameholds_any {base base' : Nat} {l : List (Int × Int)} {v v' : Value} {w : World} (h : Hds base w v l) (h' : Hds base' w v' l) (hl : l.length ≤ 1000000000) : Calls Tryz.prog 15 #[v, v'] w fun e w' => e = .returned (.bool true) ∧ Below w.heap.size w w' := by
  obtain ⟨a, c, rfl⟩ := own_form h
  obtain ⟨a', c', rfl⟩ := own_form h'
  obtain ⟨N, hN⟩ : ∃ N, l.length = N := ⟨_, rfl⟩
  rw [hN] at hl h h' ⊢
  refine Goes.begin Tryz.func15 [] (fun _ => True) Holds.nil (by simp [Mem.ids]) (fun _ _ => trivial) ?_
  refine Goes.run [0] [((N : Int) != (N : Int), false)] ⟨by simp, trivial⟩ ?_
  refine Goes.loop0 (α := Nat) 26 (fun i => [(0, .slice a N c), (1, .slice a' N c'), (5, .int .i64 i)]) [] (fun i => i ≤ N) (fun i => N - i) 0 (Nat.zero_le _) ?_
  rintro i J hi back
  cases hlt : decide ((i : Int) < (N : Int)) with
  | false =>
    refine Goes.run [0, 0] [(decide ((i : Int) < (N : Int)), false)] ⟨hlt, trivial⟩ ?_
    exact Goes.ret [] (.bool true) fun w' hm hI => ⟨rfl, bel0 hI⟩
  | true =>
    have hil : i < N := by have := of_decide_eq_true hlt; omega
    obtain ⟨q, hq⟩ : ∃ q, l[i]? = some q := ⟨l[i]'(by omega), by simp⟩
    obtain ⟨g, cap, cur, he, hg, -, -, hc⟩ := own_open h (by omega)
    obtain ⟨g', cap', cur', he', hg', -, -, hc'⟩ := own_open h' (by omega)
    rw [hN] at he he'
    cases he
    cases he'
    refine Goes.run [0, 1] [(decide ((i : Int) < (N : Int)), true)] ⟨hlt, trivial⟩ ?_
    refine Goes.openY [] [(g, .cells cur 86 (0, 0)), (g', .cells cur' 86 (0, 0))] (fun w' hI => hex2 hg hg' hI.1) ?_
    refine Goes.run [0, 1] [] trivial ?_
    refine Goes.valA 2 (Instr.indexAt 37 (.slice (some ⟨g, 0, none⟩) N c) (.int .i64 i)) (.pointer (some ⟨g, i * 2, none⟩)) (fun w' _ => idxHd0 g N c i hil w') ?_
    refine Goes.valA 3 (Instr.loadAt 86 (.pointer (some ⟨g, i * 2, none⟩))) (.agg #[.int .i64 q.1, .int .i64 q.2]) (fun w' hm => loadHdR (cur := cur) (hm.get 0) hc hq) ?_
    refine Goes.run [4, 5] [] trivial ?_
    refine Goes.valA 6 (Instr.indexAt 37 (.slice (some ⟨g', 0, none⟩) N c') (.int .i64 i)) (.pointer (some ⟨g', i * 2, none⟩)) (fun w' _ => idxHd0 g' N c' i hil w') ?_
    refine Goes.valA 7 (Instr.loadAt 86 (.pointer (some ⟨g', i * 2, none⟩))) (.agg #[.int .i64 q.1, .int .i64 q.2]) (fun w' hm => loadHdR (cur := cur') (hm.get 1) hc' hq) ?_
    refine Goes.valA 8 (do eqGuard .neq 86 (.tmp 20) (.tmp 24) (.agg #[.int .i64 q.1, .int .i64 q.2]) (.agg #[.int .i64 q.1, .int .i64 q.2]); binOp .neq 86 (.agg #[.int .i64 q.1, .int .i64 q.2]) (.agg #[.int .i64 q.1, .int .i64 q.2])) (.bool false) (fun w' _ => by have := neq_agg (t := 86) (.tmp 20) (.tmp 24) (by kernel_rfl) (eqHd q.1 q.2 q.1 q.2 w'); simpa using this) ?_
    refine Goes.run [0] [(false, false)] ⟨rfl, trivial⟩ ?_
    refine Goes.slot 5 (.int .i64 (i + 1 : Nat)) (u := .int .i64 (IntKind.i64.wrap ((i : Int) + 1))) (congrArg _ (wrap_nat (by omega))) ?_
    exact back (i + 1) _ hil (by omega) (by kernel_rfl) (by kernel_rfl) (by kernel_rfl)
set_option maxRecDepth 100000 in
seal rn rnN rnS Goes ans atEnd put0 put putM opened openedY putA0 putA oneSt st0 keep mkSt newSt in
theorem sametrans_any {base base' : Nat} {l : List (List UInt8 × Int)} {v v' : Value} {w : World} {day : Int} (h : Trs base day w v l) (h' : Trs base' day w v' l) (hl : l.length ≤ 1000000000) : Calls Tryz.prog 16 #[v, v'] w fun e w' => e = .returned (.bool true) ∧ Below w.heap.size w w' := by
  obtain ⟨a, c, rfl⟩ := own_form h
  obtain ⟨a', c', rfl⟩ := own_form h'
  obtain ⟨N, hN⟩ : ∃ N, l.length = N := ⟨_, rfl⟩
  rw [hN] at hl h h' ⊢
  refine Goes.begin Tryz.func16 [] (fun _ => True) Holds.nil (by simp [Mem.ids]) (fun _ _ => trivial) ?_
  refine Goes.run [0] [((N : Int) != (N : Int), false)] ⟨by simp, trivial⟩ ?_
  refine Goes.loop0 (α := Nat) 26 (fun i => [(0, .slice a N c), (1, .slice a' N c'), (5, .int .i64 i)]) [] (fun i => i ≤ N) (fun i => N - i) 0 (Nat.zero_le _) ?_
  rintro i J hi back
  cases hlt : decide ((i : Int) < (N : Int)) with
  | false =>
    refine Goes.run [0, 0] [(decide ((i : Int) < (N : Int)), false)] ⟨hlt, trivial⟩ ?_
    exact Goes.ret [] (.bool true) fun w' hm hI => ⟨rfl, bel0 hI⟩
  | true =>
    have hil : i < N := by have := of_decide_eq_true hlt; omega
    obtain ⟨q, hq⟩ : ∃ q, l[i]? = some q := ⟨l[i]'(by omega), by simp⟩
    obtain ⟨g, cap, cur, he, hg, -, -, hc⟩ := own_open h (by omega)
    obtain ⟨g', cap', cur', he', hg', -, -, hc'⟩ := own_open h' (by omega)
    rw [hN] at he he'
    cases he
    cases he'
    refine Goes.run [0, 1] [(decide ((i : Int) < (N : Int)), true)] ⟨hlt, trivial⟩ ?_
    refine Goes.openY [] [(g, .cells cur 59 (0, 0)), (g', .cells cur' 59 (0, 0))] (fun w' hI => hex2 hg hg' hI.1) ?_
    refine Goes.run [0, 1] [] trivial ?_
    refine Goes.valA 2 (Instr.indexAt 38 (.slice (some ⟨g, 0, none⟩) N c) (.int .i64 i)) (.pointer (some ⟨g, i * 3, none⟩)) (fun w' _ => idxTr g N c i hil w') ?_
    refine Goes.valA 3 (Instr.loadAt 59 (.pointer (some ⟨g, i * 3, none⟩))) (.agg #[.int .i64 day, strV q.1, .int .i64 q.2]) (fun w' hm => loadTr (cur := cur) (hm.get 0) hc hq) ?_
    refine Goes.run [4, 5] [] trivial ?_
    refine Goes.valA 6 (Instr.indexAt 38 (.slice (some ⟨g', 0, none⟩) N c') (.int .i64 i)) (.pointer (some ⟨g', i * 3, none⟩)) (fun w' _ => idxTr g' N c' i hil w') ?_
    refine Goes.valA 7 (Instr.loadAt 59 (.pointer (some ⟨g', i * 3, none⟩))) (.agg #[.int .i64 day, strV q.1, .int .i64 q.2]) (fun w' hm => loadTr (cur := cur') (hm.get 1) hc' hq) ?_
    refine Goes.valA 8 (do eqGuard .neq 59 (.tmp 20) (.tmp 24) (.agg #[.int .i64 day, strV q.1, .int .i64 q.2]) (.agg #[.int .i64 day, strV q.1, .int .i64 q.2]); binOp .neq 59 (.agg #[.int .i64 day, strV q.1, .int .i64 q.2]) (.agg #[.int .i64 day, strV q.1, .int .i64 q.2])) (.bool false) (fun w' _ => by have := neq_agg (t := 59) (.tmp 20) (.tmp 24) (by kernel_rfl) (eqTr day q.1 q.2 day q.1 q.2 w'); simpa using this) ?_
    refine Goes.run [0] [(false, false)] ⟨rfl, trivial⟩ ?_
    refine Goes.slot 5 (.int .i64 (i + 1 : Nat)) (u := .int .i64 (IntKind.i64.wrap ((i : Int) + 1))) (congrArg _ (wrap_nat (by omega))) ?_
    exact back (i + 1) _ hil (by omega) (by kernel_rfl) (by kernel_rfl) (by kernel_rfl)
end Go.Proofs.YtddbiiejilcbbaaGreatDoor
