/- the text VmL4 -/
import Derived.Test.YtddbiiejilcbbaaGreatDoorAG25
namespace Go.Proofs.YtddbiiejilcbbaaGreatDoor
open Go Go.RowKit

section
variable {w : World} {k : Kd} {fs : Fs} {fa aW aI : Option Addr} {fN fc nW cW nI cI : Nat} {rg day wh : Int} {lab : List UInt8} {l : List (Int × Int)} {v : Value}
set_option maxHeartbeats 4000000 in
set_option maxRecDepth 100000 in
seal rn rnN rnS Goes ans atEnd put0 put putM opened openedY putA0 putA oneSt st0 keep mkSt newSt in
theorem dstep_any (hM : CdM w aW nW cW aI nI cI k) (hrg : k.regs = rg) (hS : Sts w.heap.size w v l) (hF : Fds w.heap.size w (.slice fa fN fc) fs) (hl : ∀ f ∈ fs, f.1.length ≤ 9223372036854775807) (hlab : lab.length ≤ 9223372036854775807) (hT : Tab w) : Calls Tryz.prog 18 #[cdV rg aW nW cW aI nI cI, v, .int .i64 day, (.slice fa fN fc), chV lab wh] w (BgQ day w (steP k fs day lab wh l)) := by
  obtain ⟨hs1, hs2⟩ := stp_same k fs day lab wh l s0Ms (s0Ms, false) s0_over.symm (fun _ => rfl)
  unfold steP
  rw [← out_same hs1 hs2]
  clear hs1 hs2
  obtain ⟨D, hD⟩ : ∃ D, vstD k fs day lab wh l (s0Ms, false) = D := ⟨_, rfl⟩
  rw [hD]
  obtain ⟨S, b⟩ := D
  have hlw := hM.lw
  unfold stOkP
  rw [hlw]
  show Calls _ _ _ w (BgQ day w (outP (rgt k fs day && hlP nW l && rcP lab wh) S b))
  refine Goes.begin Tryz.func18 [] (fun _ => True) Holds.nil (by simp [Mem.ids]) (fun _ _ => trivial) ?_
  refine Goes.run [] [] trivial ?_
  refine Goes.new1 w.heap.size (fun w' h => h.1.size) fun gc hgc => ?_
  refine Goes.run [] [] trivial ?_
  refine Goes.new1 w.heap.size (fun w' h => h.1.size) fun gh hgh => ?_
  refine Goes.run [0] [] trivial ?_
  refine Goes.call0 33 #[cdV rg aW nW cW aI nI cI, .int .i64 day, (.slice fa fN fc)] (.bool (rgt k fs day)) (fun w' hm hI => dright_any (hM.below (bel0 hI)) hrg (hF.at (bel0 hI)) hl) ?_
  refine Goes.run [1] [] trivial ?_
  refine Goes.call0 38 #[chV lab wh] (.bool (rcP lab wh)) (fun w' hm hI => rchoice_any lab wh w' hlab) ?_
  cases hr : rgt k fs day with
  | false =>
    refine Goes.run [1, 1] [(true, true), (true, true)] ⟨rfl, rfl, trivial⟩ ?_
    exact Goes.ret [] (.tuple #[nl, nl, .int .i64 0, .int .i64 180]) fun w' hm hI => ⟨nl, nl, rfl, Hds.nil, Trs.nil, bel0 hI⟩
  | true =>
  cases hch : rcP lab wh with
  | false =>
    refine Goes.run [0, 1] [(true, true), (false, false)] ⟨rfl, rfl, trivial⟩ ?_
    exact Goes.ret [] (.tuple #[nl, nl, .int .i64 0, .int .i64 180]) fun w' hm hI => ⟨nl, nl, by rw [Bool.and_false]; rfl, by rw [Bool.and_false]; exact Hds.nil, by rw [Bool.and_false]; exact Trs.nil, bel0 hI⟩
  | true =>
  refine Goes.run [0, 0, 0] [(false, false), (false, false)] ⟨rfl, rfl, trivial⟩ ?_
  refine Goes.call0 39 #[cdV rg aW nW cW aI nI cI, v] (.bool (hlP nW l)) (fun w' hm hI => dholds_any ((hS.later (bel0 hI)).more (bel0 hI).size)) ?_
  cases hh : hlP (nW : Int) l with
  | false =>
    refine Goes.run [1] [(true, true)] ⟨rfl, trivial⟩ ?_
    exact Goes.ret [] (.tuple #[nl, nl, .int .i64 0, .int .i64 180]) fun w' hm hI => ⟨nl, nl, rfl, Hds.nil, Trs.nil, bel0 hI⟩
  | true =>
    have h0 := rn0_of hM hrg hF hT hr
    have hall : allH nW l = true := by unfold hlP at hh; rw [Bool.and_eq_true] at hh; exact hh.2
    have hlen : l.length ≤ 250 := by unfold hlP at hh; rw [Bool.and_eq_true, decide_eq_true_eq] at hh; omega
    refine Goes.run [0] [(false, false)] ⟨rfl, trivial⟩ ?_
    refine Goes.new1 w.heap.size (fun w' h => h.1.size) fun gm hgm => ?_
    refine Goes.run [0, 1] [] trivial ?_
    refine Goes.call 40 #[.pointer (some ⟨gm, 0, none⟩), cdV rg aW nW cW aI nI cI, v, chV lab wh] fun w1 hm1 hn1 hI1 => (dsteps_any h0 hgm hS hall hlen hch (bel0 hI1) (show w1.heap[gm]? = some (dmO day (.slice fa fN fc) nl nl 0 false) from hm1.get 2)).mono fun e w2 ⟨lv, tv, he, hg2, hMc⟩ => ?_
    rw [hD] at hg2 hMc
    replace hMc : McI w.heap.size gm day w1 nl nl lv tv S.holds S.out w2 := hMc
    obtain ⟨aL, cL, rfl⟩ := own_form hMc.2.1
    obtain ⟨aT, cT, rfl⟩ := own_form hMc.2.2.1
    have hB1 := bel0 hI1
    refine ⟨_, _, [(gm, dmO day (.slice fa fN fc) (.slice aL S.holds.length cL) (.slice aT S.out.length cT) S.steps b)], he, hold1v hg2, by simp [Mem.ids], hMc.stay ⟨_, _, _, hg2, by decide, by decide⟩ (fun x hx => .inl (by simpa [Mem.ids] using hx)), ?_⟩
    have fin : ∀ {w'}, McI w.heap.size gm day w1 nl nl (.slice aL S.holds.length cL) (.slice aT S.out.length cT) S.holds S.out w' → Below w.heap.size w w' := fun h => hB1.trans (mcB Hds.nil Trs.nil hgm hB1.size h)
    refine Goes.run [] [] trivial ?_
    cases b with
    | true =>
      refine Goes.call0 34 #[.pointer (some ⟨gm, 0, none⟩)] (.tuple #[nl, nl, .int .i64 0, .int .i64 180]) (fun w' hm hI => dtold_any (show w'.heap[gm]? = some (dmO day (.slice fa fN fc) (.slice aL S.holds.length cL) (.slice aT S.out.length cT) S.steps true) from hm.get 0)) ?_
      refine Goes.run [] [] trivial ?_
      exact Goes.ret [] (.tuple #[nl, nl, .int .i64 0, .int .i64 180]) fun w' hm hI => ⟨nl, nl, rfl, Hds.nil, Trs.nil, fin hI.now⟩
    | false =>
      refine Goes.call0 34 #[.pointer (some ⟨gm, 0, none⟩)] (.tuple #[.slice aL S.holds.length cL, .slice aT S.out.length cT, .int .i64 S.steps, .int .i64 0]) (fun w' hm hI => dtold_any (show w'.heap[gm]? = some (dmO day (.slice fa fN fc) (.slice aL S.holds.length cL) (.slice aT S.out.length cT) S.steps false) from hm.get 0)) ?_
      refine Goes.run [] [] trivial ?_
      exact Goes.ret [] (.tuple #[.slice aL S.holds.length cL, .slice aT S.out.length cT, .int .i64 S.steps, .int .i64 0]) fun w' hm hI => ⟨_, _, rfl, hI.now.2.1, hI.now.2.2.1, fin hI.now⟩
theorem ste_small (k : Kd) (fs : Fs) (day : Int) (lab : List UInt8) (wh : Int) (l : List (Int × Int)) : (steP k fs day lab wh l).holds.length ≤ 1000000000 ∧ (steP k fs day lab wh l).out.length ≤ 1000000000 := by
  have h := stp_fit k fs day lab wh l s0Ms s0_fit
  unfold steP
  obtain ⟨S, hS⟩ : ∃ S, vstP k fs day lab wh l s0Ms = S := ⟨_, rfl⟩
  rw [hS] at h ⊢
  have h1 := h.holds
  have h2 := h.out
  have h3 := h.hi
  unfold outP
  cases stOkP k fs day lab wh l && !overM S with
  | true => exact ⟨by show S.holds.length ≤ _; omega, by show S.out.length ≤ _; omega⟩
  | false => exact ⟨by show ([] : List (Int × Int)).length ≤ _; simp, by show ([] : List (List UInt8 × Int)).length ≤ _; simp⟩
set_option maxHeartbeats 4000000 in
set_option maxRecDepth 100000 in
seal rn rnN rnS Goes ans atEnd put0 put putM opened openedY putA0 putA oneSt st0 keep mkSt newSt in
theorem vsteps_walk (hT : Tab w) (hU : TabU w) (hM : CdM w aW nW cW aI nI cI k) (hrg : k.regs = rg) (hwf : k.wf) (hS : Sts w.heap.size w v l) (hF : Fds w.heap.size w (.slice fa fN fc) fs) (hl : ∀ f ∈ fs, f.1.length ≤ 9223372036854775807) (hlab : lab.length ≤ 9223372036854775807) : Calls Tryz.prog 6 #[cdV rg aW nW cW aI nI cI, v, .int .i64 day, (.slice fa fN fc), chV lab wh] w fun e w' => e = .returned (.bool true) ∧ Below w.heap.size w w' := by
  obtain ⟨sm1, sm2⟩ := ste_small k fs day lab wh l
  obtain ⟨R, hR⟩ : ∃ R, steP k fs day lab wh l = R := ⟨_, rfl⟩
  rw [hR] at sm1 sm2
  refine Goes.begin Tryz.func6 [] (fun _ => True) Holds.nil (by simp [Mem.ids]) (fun _ _ => trivial) ?_
  refine Goes.run [] [] trivial ?_
  refine Goes.new1 w.heap.size (fun w' h => h.1.size) fun g5 hg5 => ?_
  refine Goes.run [] [] trivial ?_
  refine Goes.new1 w.heap.size (fun w' h => h.1.size) fun g9 hg9 => ?_
  refine Goes.run [] [] trivial ?_
  refine Goes.call0 12 #[] (.bool true) (fun w' hm hI => shown18_any (hT.below (bel0 hI)) (hU.below (bel0 hI))) ?_
  refine Goes.run [0, 1] [] trivial ?_
  refine Goes.callBg 17 #[cdV rg aW nW cW aI nI cI, v, .int .i64 day, (.slice fa fN fc), chV lab wh] day R w.heap.size (fun w1 hm hI => by have hb := bel0 hI; have := pstep_any (day := day) (wh := wh) (hM.below hb) hrg hwf ((hS.later hb).more hb.size) (hF.at hb) hl hlab (hU.below hb) (hT.below hb); rwa [hR] at this) (fun w' h => h.1.size) fun aL cL aT cT => ?_
  refine Goes.run [0, 1] [] trivial ?_
  refine Goes.callBg 18 #[cdV rg aW nW cW aI nI cI, v, .int .i64 day, (.slice fa fN fc), chV lab wh] day R w.heap.size (fun w1 hm hI => by have hb := bel0 (hI.mono fun _ h => h.1); have := dstep_any (day := day) (wh := wh) (hM.below hb) hrg ((hS.later hb).more hb.size) (hF.at hb) hl hlab (hT.below hb); rwa [hR] at this) (fun w' h => h.1.1.size) fun aM cM aU cU => ?_
  refine Goes.run [1] [(true, true)] ⟨rfl, trivial⟩ ?_
  refine Goes.call0 15 #[.slice aL R.holds.length cL, .slice aM R.holds.length cM] (.bool true) (fun w' hm hI => sameholds_any hI.now.1.2.1 hI.now.2.1 sm1) ?_
  refine Goes.run [1] [(true, true)] ⟨rfl, trivial⟩ ?_
  refine Goes.call0 16 #[.slice aT R.out.length cT, .slice aU R.out.length cU] (.bool true) (fun w' hm hI => sametrans_any hI.now.1.2.2 hI.now.2.2 sm2) ?_
  refine Goes.run [1, 1] [(R.steps == R.steps, true), (true, true)] ⟨by simp, rfl, trivial⟩ ?_
  exact Goes.ret [] (.bool (R.err == R.err)) fun w' hm hI => ⟨by simp, bel0 (hI.mono fun _ h => h.1.1)⟩
end
end Go.Proofs.YtddbiiejilcbbaaGreatDoor
