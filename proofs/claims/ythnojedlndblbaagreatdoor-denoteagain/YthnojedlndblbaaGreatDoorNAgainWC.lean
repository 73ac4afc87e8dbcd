/- the text NAgainW -/
import Derived.Test.YthnojedlndblbaaGreatDoorNGm
namespace Go.Proofs.YthnojedlndblbaaGreatDoor
open Go Go.RowKit

theorem gd_len {c : Co} {l : List (Int × Int)} (h : Gd c l) (hf : ∀ x ∈ l, inM x.2) (hc : szC c ≤ 2000) : l.length ≤ 1000000000 := by
  have := (rl_facts (by omega) (gd_rl h hf)).1
  omega
set_option maxRecDepth 100000 in
seal rn rnN rnS Goes ans atEnd put0 put putM opened openedY putA0 putA oneSt st0 keep mkSt newSt in
theorem again_walk {fs gs : Fs} {fv gv u : Value} {c : Co} {w : World} (day later : Int) (lab : List UInt8) (which : Int) (hT : Tab w) (htl : 1 < w.heap.size) (hN : Nc w.heap.size w u c) (hF : Fds w.heap.size w fv fs) (hl : ∀ f ∈ fs, f.1.length ≤ 9223372036854775807) (hG : Fds w.heap.size w gv gs) (hlg : ∀ f ∈ gs, f.1.length ≤ 9223372036854775807) (hlab : lab.length ≤ 9223372036854775807) : Calls Tryz.prog 7 #[u, .int .i64 day, fv, .int .i64 later, gv, chV lab which] w fun e w' => e = .returned (.bool true) ∧ Below w.heap.size w w' := by
  obtain ⟨op, k, t, a, N, cc, rfl⟩ := hN.cells
  obtain ⟨aF, NF, cF, rfl⟩ : ∃ aF NF cF, fv = .slice aF NF cF := by obtain ⟨x, y, e, -⟩ := hF; exact ⟨x, _, y, e⟩
  obtain ⟨aG, NG, cG, rfl⟩ : ∃ aF NF cF, gv = .slice aF NF cF := by obtain ⟨x, y, e, -⟩ := hG; exact ⟨x, _, y, e⟩
  refine Goes.begin Tryz.func7 [] (fun _ => True) Holds.nil (by simp [Mem.ids]) (fun _ _ => trivial) ?_
  refine Goes.run2 [] [] trivial fun g6 g11 => ?_
  refine Goes.call0 9 #[] (.bool true) (fun w' _ hI => shownd_any w' (hT.below (bel0 hI)) (Nat.lt_of_lt_of_le htl (bel0 hI).size)) ?_
  refine Goes.run [0] [] trivial ?_
  rcases beg_again (fs := fs) (day := day) (c := c) with ⟨hb, hs, hc⟩ | ⟨hb, hs⟩
  · have hgd := gd_acq fs day c 1000000
    have hfc := acq_fac fs day c 0 1000000 inM_one
    obtain ⟨l, t0, hr⟩ : ∃ l t0, acq fs day c 0 1000000 = (l, t0) := ⟨_, _, rfl⟩
    rw [hr] at hb hs hgd hfc
    have hszc := (chk_typ (c := c) (by rw [hc]; rfl)).2.1
    have hlen := gd_len hgd hfc hszc
    refine Goes.callLT 12 #[cv op k t (.slice a N cc), .int .i64 day, .slice aF NF cF] day ((l, t0), 0) w.heap.size (fun w1 hm hI => by have := begin_any day (hT.below (bel0 hI)) (Nat.lt_of_lt_of_le htl (bel0 hI).size) (hN.at (bel0 hI)) (hF.at (bel0 hI)) hl; rwa [hb] at this) (fun w' h => h.1.size) fun aL cL aT cT => ?_
    refine Goes.run [0] [] trivial ?_
    refine Goes.callLT 16 #[cv op k t (.slice a N cc), .slice aL l.length cL, .int .i64 day, .slice aF NF cF, chV [] 0] day ((l, []), 0) w.heap.size (fun w1 hm hI => by have hB := bel0 (hI.mono fun _ h => h.1); have := step_any day [] 0 (hT.below hB) (Nat.lt_of_lt_of_le htl hB.size) (hN.at hB) (Lvs.sts hI.now.2.1) (hF.at hB) hl (by simp); rwa [hs] at this) (fun w' h => h.1.1.size) fun aM cM aU cU => ?_
    refine Goes.run [0] [(false, false)] ⟨rfl, trivial⟩ ?_
    refine Goes.call0 14 #[.slice aL l.length cL, .slice aM l.length cM] (.bool true) (fun w' _ hI => samelives_any hI.now.1.2.1 hI.now.2.1 hlen) ?_
    refine Goes.run [0, 0, 0, 0, 1] [(false, false), (false, false), (false, false)] ⟨rfl, rfl, rfl, trivial⟩ ?_
    obtain ⟨r3, hr3⟩ : ∃ r3, steR gs later lab which c l = r3 := ⟨_, rfl⟩
    have step2 : ∀ w1, Below w.heap.size w w1 → Lvs w.heap.size w1 (.slice aL l.length cL) l → Calls Tryz.prog 16 #[cv op k t (.slice a N cc), .slice aL l.length cL, .int .i64 later, .slice aG NG cG, chV lab which] w1 (LTQ later w1 r3) := fun w1 hB hLv => by
      have := step_any later lab which (hT.below hB) (Nat.lt_of_lt_of_le htl hB.size) (hN.at hB) (Lvs.sts hLv) (hG.at hB) hlg hlab
      rwa [hr3] at this
    rcases ste_cases gs later lab which c l with ⟨h1, -, -⟩ | ⟨h1, -⟩
    · obtain ⟨l3, t3, hr⟩ : ∃ l3 t3, stepP gs later lab which c l = (l3, t3) := ⟨_, _, rfl⟩
      rw [hr] at h1
      obtain ⟨hs3, hg3, hf3⟩ := ste_again (l := l) hgd hfc h1
      obtain rfl : r3 = ((l3, t3), 0) := hr3.symm.trans h1
      have hlen3 := gd_len hg3 hf3 hszc
      refine Goes.callLT 16 #[cv op k t (.slice a N cc), .slice aL l.length cL, .int .i64 later, .slice aG NG cG, chV lab which] later ((l3, t3), 0) w.heap.size (fun w1 hm hI => step2 w1 (bel0 (hI.mono fun _ h => h.1.1)) hI.now.1.2.1) (fun w' h => h.1.1.1.size) fun a3 c3 b3 d3 => ?_
      refine Goes.run [0, 0] [(false, false)] ⟨rfl, trivial⟩ ?_
      refine Goes.callLT 16 #[cv op k t (.slice a N cc), .slice a3 l3.length c3, .int .i64 later, .slice aG NG cG, chV [] 0] later ((l3, []), 0) w.heap.size (fun w1 hm hI => by have hB := bel0 (hI.mono fun _ h => h.1.1.1); have := step_any later [] 0 (hT.below hB) (Nat.lt_of_lt_of_le htl hB.size) (hN.at hB) (Lvs.sts hI.now.2.1) (hG.at hB) hlg (by simp); rwa [hs3] at this) (fun w' h => h.1.1.1.1.size) fun a4 c4 b4 d4 => ?_
      refine Goes.run [1, 1] [(true, true), (true, true)] ⟨rfl, rfl, trivial⟩ ?_
      refine Goes.call0 14 #[.slice a3 l3.length c3, .slice a4 l3.length c4] (.bool true) (fun w' _ hI => samelives_any hI.now.1.2.1 hI.now.2.1 hlen3) ?_
      refine Goes.run [1, 1, 0] [(true, true), (true, true)] ⟨rfl, rfl, trivial⟩ ?_
      refine Goes.call0 18 #[cv op k t (.slice a N cc), .slice a3 l3.length c3] (.bool true) (fun w' _ hI => by have hB := bel0 (hI.mono fun _ h => h.1.1.1.1); have := rlives_any hszc (hN.at hB) (Lvs.sts hI.now.1.2.1); rwa [gd_rl hg3 hf3] at this) ?_
      refine Goes.run [] [] trivial ?_
      exact Goes.ret [] (.bool true) fun w' hm hI => ⟨rfl, bel0 (hI.mono fun _ h => h.1.1.1.1)⟩
    · obtain rfl : r3 = (r0, 150) := hr3.symm.trans h1
      refine Goes.callLT 16 #[cv op k t (.slice a N cc), .slice aL l.length cL, .int .i64 later, .slice aG NG cG, chV lab which] later (r0, 150) w.heap.size (fun w1 hm hI => step2 w1 (bel0 (hI.mono fun _ h => h.1.1)) hI.now.1.2.1) (fun w' h => h.1.1.1.size) fun a3 c3 b3 d3 => ?_
      refine Goes.run [1] [(true, true)] ⟨rfl, trivial⟩ ?_
      exact Goes.ret [] (.bool true) fun w' hm hI => ⟨rfl, bel0 (hI.mono fun _ h => h.1.1.1)⟩
  · refine Goes.callLT 12 #[cv op k t (.slice a N cc), .int .i64 day, .slice aF NF cF] day (r0, 150) w.heap.size (fun w1 hm hI => by have := begin_any day (hT.below (bel0 hI)) (Nat.lt_of_lt_of_le htl (bel0 hI).size) (hN.at (bel0 hI)) (hF.at (bel0 hI)) hl; rwa [hb] at this) (fun w' h => h.1.size) fun aL cL aT cT => ?_
    refine Goes.run [0] [] trivial ?_
    refine Goes.callLT 16 #[cv op k t (.slice a N cc), .slice aL 0 cL, .int .i64 day, .slice aF NF cF, chV [] 0] day (r0, 150) w.heap.size (fun w1 hm hI => by have hB := bel0 (hI.mono fun _ h => h.1); have := step_any day [] 0 (hT.below hB) (Nat.lt_of_lt_of_le htl hB.size) (hN.at hB) (Lvs.sts hI.now.2.1) (hF.at hB) hl (by simp); rwa [hs] at this) (fun w' h => h.1.1.size) fun aM cM aU cU => ?_
    refine Goes.run [1, 1] [(true, true), (true, true)] ⟨rfl, rfl, trivial⟩ ?_
    exact Goes.ret [] (.bool true) fun w' hm hI => ⟨rfl, bel0 (hI.mono fun _ h => h.1.1)⟩
end Go.Proofs.YthnojedlndblbaaGreatDoor
