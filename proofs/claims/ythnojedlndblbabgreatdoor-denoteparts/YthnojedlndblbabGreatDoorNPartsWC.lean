/- the text NPartsW -/
import Derived.Test.YthnojedlndblbabGreatDoorNPartsCC
import Derived.Test.DevTool
import Derived.Test.YthnojedlndblbabGreatDoorNGm
namespace Go.Proofs.YthnojedlndblbabGreatDoor
open Go Go.RowKit

theorem parts_facts (fs : Fs) (day : Int) (ca cb : Co) {la lb lg lx : List (Int × Int)} {ta tb tg tx : List (List UInt8 × Int)} {ea eb eg ex : Int} (hA : begR fs day ca = ((la, ta), ea)) (hB : begR fs day cb = ((lb, tb), eb)) (hG : begR fs day (giveC ca) = ((lg, tg), eg)) (hX : begR fs day (bothC ca cb) = ((lx, tx), ex)) :
    (eg = 150 ∧ (ea = 150 ∨ ea = 0)) ∨ (ea = 0 ∧ eg = 0 ∧ lg = la.map (fun x => (x.1 + 1, -x.2)) ∧ tg = ta.map (fun x => (x.1, -x.2)) ∧ szC ca ≤ 2000 ∧ (∀ x ∈ la, 0 ≤ x.1 ∧ x.1 ≤ 2000) ∧ (∀ x ∈ la, inM x.2) ∧ (∀ x ∈ ta, inM x.2) ∧ la.length ≤ 2000 ∧ ta.length ≤ 10000 ∧
      ((eb = 150 ∧ ex = 150) ∨ (eb = 0 ∧ ex = 150) ∨ (eb = 0 ∧ ex = 0 ∧ tx = ta ++ tb ∧ lx = la.map (fun x => (x.1 + 1, x.2)) ++ lb.map (fun x => (x.1 + 1 + szC ca, x.2)) ∧ (∀ x ∈ lb, 0 ≤ x.1 ∧ x.1 ≤ 2000) ∧ lb.length ≤ 2000 ∧ tb.length ≤ 10000))) := by
  have two : ∀ c {l : List (Int × Int)} {t : List (List UInt8 × Int)} {e : Int}, begR fs day c = ((l, t), e) → e = 150 ∨ (e = 0 ∧ szC c ≤ 2000 ∧ (∀ x ∈ l, 0 ≤ x.1 ∧ x.1 ≤ 2000) ∧ (∀ x ∈ l, inM x.2) ∧ (∀ x ∈ t, inM x.2) ∧ l.length ≤ 2000 ∧ t.length ≤ 10000) := fun c {l t e} h => by
    rcases beg_cases fs day c with ⟨h1, h2⟩ | ⟨h1, -⟩
    · rw [h] at h1
      simp only [Bool.and_eq_true] at h2
      have hs := (chk_typ h2.1).2.1
      have e1 : l = (acq fs day c 0 1000000).1 := congrArg (fun r : R2 × Int => r.1.1) h1
      have e2 : t = (acq fs day c 0 1000000).2 := congrArg (fun r : R2 × Int => r.1.2) h1
      have e3 : e = 0 := congrArg (fun r : R2 × Int => r.2) h1
      have hfc := acq_fac fs day c 0 _ inM_one
      have hlen := acq_len fs day c 0 1000000
      subst e1 e2 e3
      exact .inr ⟨rfl, hs, rl_at (gd_acq fs day c 1000000) hfc hs, hfc, acq_amt fs day c 0 _ inM_one, by omega, by omega⟩
    · rw [h] at h1
      exact .inl (congrArg (fun r : R2 × Int => r.2) h1)
  rcases beg_cases fs day (giveC ca) with ⟨h1, -⟩ | ⟨h1, -⟩
  · rw [hG] at h1
    have e0 : eg = 0 := congrArg (fun r : R2 × Int => r.2) h1
    subst e0
    obtain ⟨r', e1, e2⟩ := beg_give hG
    rw [hA] at e1
    have e3 : r' = (la, ta) := (congrArg (fun r : R2 × Int => r.1) e1).symm
    have e4 : ea = 0 := congrArg (fun r : R2 × Int => r.2) e1
    subst e3 e4
    have e5 : lg = (shR 1 (ngR (la, ta))).1 := congrArg (fun r : R2 => r.1) e2
    have e6 : tg = (shR 1 (ngR (la, ta))).2 := congrArg (fun r : R2 => r.2) e2
    rcases two ca hA with h | ⟨-, p1, p2, p3, p4, p5, p6⟩
    · cases h
    refine .inr ⟨rfl, rfl, by rw [e5]; unfold shR ngR; simp [Function.comp_def], by rw [e6]; rfl, p1, p2, p3, p4, p5, p6, ?_⟩
    rcases beg_cases fs day (bothC ca cb) with ⟨h2, -⟩ | ⟨h2, -⟩
    · rw [hX] at h2
      have e7 : ex = 0 := congrArg (fun r : R2 × Int => r.2) h2
      subst e7
      obtain ⟨r', r'', f1, f2, f3⟩ := beg_both hX
      rw [hA] at f1
      rw [hB] at f2
      have g1 : r' = (la, ta) := (congrArg (fun r : R2 × Int => r.1) f1).symm
      have g2 : r'' = (lb, tb) := (congrArg (fun r : R2 × Int => r.1) f2).symm
      have g3 : eb = 0 := congrArg (fun r : R2 × Int => r.2) f2
      subst g1 g2 g3
      rcases two cb hB with h | ⟨-, q1, q2, q3, q4, q5, q6⟩
      · cases h
      refine .inr (.inr ⟨rfl, rfl, congrArg (fun r : R2 => r.2) f3, ?_, q2, q5, q6⟩)
      have e8 := congrArg (fun r : R2 => r.1) f3
      simp only [R2.cat, shR] at e8
      rw [e8]
      congr 1
      exact List.map_congr_left fun x _ => by rw [Int.add_assoc]
    · rw [hX] at h2
      have e7 : ex = 150 := congrArg (fun r : R2 × Int => r.2) h2
      subst e7
      rcases two cb hB with h | ⟨h, -⟩
      · exact .inl ⟨h, rfl⟩
      · exact .inr (.inl ⟨h, rfl⟩)
  · rw [hG] at h1
    have e0 : eg = 150 := congrArg (fun r : R2 × Int => r.2) h1
    rcases two ca hA with h | ⟨h, -⟩
    · exact .inl ⟨e0, .inl h⟩
    · exact .inl ⟨e0, .inr h⟩
set_option maxRecDepth 100000 in
set_option maxHeartbeats 8000000 in
seal rn rnN rnS Goes ans atEnd put0 put putM opened openedY putA0 putA oneSt st0 keep mkSt newSt in
theorem parts_walk {fs : Fs} {fv u v : Value} {ca cb : Co} {w : World} (day : Int) (hT : Tab w) (htl : 3 < w.heap.size) (hN : Nc w.heap.size w u ca) (hN2 : Nc w.heap.size w v cb) (hF : Fds w.heap.size w fv fs) (hl : ∀ f ∈ fs, f.1.length ≤ 9223372036854775807) : Calls Tryz.prog 3 #[u, v, .int .i64 day, fv] w fun e w' => e = .returned (.bool true) ∧ Below w.heap.size w w' := by
  obtain ⟨op, k, s, a, N, cc, rfl⟩ := hN.cells
  obtain ⟨op2, k2, s2, a', N2, cc2, rfl⟩ := hN2.cells
  obtain ⟨aF, NF, cF, rfl⟩ : ∃ aF NF cF, fv = .slice aF NF cF := by obtain ⟨x, y, e, -⟩ := hF; exact ⟨x, _, y, e⟩
  obtain ⟨la, ta, ea, hA⟩ : ∃ l t e, begR fs day ca = ((l, t), e) := ⟨_, _, _, rfl⟩
  obtain ⟨lb, tb, eb, hB⟩ : ∃ l t e, begR fs day cb = ((l, t), e) := ⟨_, _, _, rfl⟩
  obtain ⟨lg, tg, eg, hG⟩ : ∃ l t e, begR fs day (giveC ca) = ((l, t), e) := ⟨_, _, _, rfl⟩
  obtain ⟨lx, tx, ex, hX⟩ : ∃ l t e, begR fs day (bothC ca cb) = ((l, t), e) := ⟨_, _, _, rfl⟩
  refine Goes.begin Tryz.func3 [] (fun _ => True) Holds.nil (by simp [Mem.ids]) (fun _ _ => trivial) ?_
  refine Goes.run2 [] [] trivial fun g4 g5 => ?_
  refine Goes.call0 6 #[] (.bool true) (fun w' _ hI => shownd_any w' (hT.below (bel0 hI)) (Nat.lt_of_lt_of_le htl (bel0 hI).size)) ?_
  refine Goes.run [0] [] trivial ?_
  refine Goes.callLT 7 #[cv op k s (.slice a N cc), .int .i64 day, .slice aF NF cF] day ((la, ta), ea) w.heap.size (fun w1 hm hI => by have hB := bel0 hI; have := begin_any (c := ca) day (hT.below hB) (Nat.lt_of_lt_of_le htl hB.size) (hN.at hB) (hF.at hB) hl; rwa [hA] at this) (fun w' h => h.1.size) fun a1 c1 b1 d1 => ?_
  refine Goes.run [1] [] trivial ?_
  refine Goes.callLT 7 #[cv op2 k2 s2 (.slice a' N2 cc2), .int .i64 day, .slice aF NF cF] day ((lb, tb), eb) w.heap.size (fun w1 hm hI => by have hBl := bel0 (hI.mono fun _ h => h.1); have := begin_any (c := cb) day (hT.below hBl) (Nat.lt_of_lt_of_le htl hBl.size) (hN2.at hBl) (hF.at hBl) hl; rwa [hB] at this) (fun w' h => h.1.1.size) fun a2 c2 b2 d2 => ?_
  refine Goes.run2 [0, 3] [] trivial fun gA g16 => ?_
  refine Goes.run2 [0, 1, 5, 3] [] trivial fun gB g17 => ?_
  refine Goes.callLT 7 #[cv 25 0 [] (.slice (some ⟨gA, 0, none⟩) 1 1), .int .i64 day, .slice aF NF cF] day ((lg, tg), eg) w.heap.size (fun w1 hm hI => by have hB := bel0 (hI.mono fun _ h => h.1.1); have := begin_any (c := (giveC ca)) day (hT.below hB) (Nat.lt_of_lt_of_le htl hB.size) (one_nc (w := w1) (b := gA) (z := (0, 0)) ⟨by omega, by omega, by simp⟩ (hm.get 2) (hN.at hB)) (hF.at hB) hl; rwa [hG] at this) (fun w' h => h.1.1.1.size) fun a3 c3 b3 d3 => ?_
  refine Goes.run [5] [] trivial ?_
  refine Goes.callLT 7 #[cv 27 0 [] (.slice (some ⟨gB, 0, none⟩) 2 2), .int .i64 day, .slice aF NF cF] day ((lx, tx), ex) w.heap.size (fun w1 hm hI => by have hB := bel0 (hI.mono fun _ h => h.1.1.1); have := begin_any (c := (bothC ca cb)) day (hT.below hB) (Nat.lt_of_lt_of_le htl hB.size) (pair_nc (w := w1) (b := gB) (z := (0, 0)) ⟨by omega, by omega, by simp⟩ (hm.get 4) (hN.at hB) (hN2.at hB)) (hF.at hB) hl; rwa [hX] at this) (fun w' h => h.1.1.1.1.size) fun a5 c5 b6 d6 => ?_
  rcases parts_facts fs day ca cb hA hB hG hX with ⟨rfl, rfl | rfl⟩ | ⟨rfl, rfl, rfl, rfl, p1, p2, p3, p4, p5, p6, hfh⟩
  · refine Goes.run [1, 1, 1, 0] [(false, false), (true, true), (true, true), (true, true)] ⟨rfl, rfl, rfl, rfl, trivial⟩ ?_
    exact Goes.ret [] (.bool true) fun w' hm hI => ⟨rfl, bel0 (hI.mono fun _ h => h.1.1.1.1)⟩
  · refine Goes.run [0, 1, 1, 1] [(true, true), (true, true), (true, true), (false, false)] ⟨rfl, rfl, rfl, rfl, trivial⟩ ?_
    exact Goes.ret [] (.bool true) fun w' hm hI => ⟨rfl, bel0 (hI.mono fun _ h => h.1.1.1.1)⟩
  · refine Goes.upto 86 [0, 0] [(false, false), (false, false)] ⟨rfl, rfl, trivial⟩ ?_
    refine Goes.rebase fun w1 hm1 hn1 hI1 => ?_
    have hB1 : Below w.heap.size w w1 := bel0 (hI1.mono fun _ h => h.1.1.1.1)
    obtain ⟨⟨⟨⟨-, q1, q2⟩, q3, q4⟩, q5, q6⟩, q7, q8⟩ := hI1.now
    have y4 : w1.heap[g4]? = some (cO op k s (.slice a N cc)) := hm1.get 0
    refine ⟨fun w' => Ch (Mem.ids []) w1 w' ∧ True, [], Holds.nil, by simp [Mem.ids], fun w' h => ⟨h, trivial⟩, ?_⟩
    refine Goes.at (K := paK1) (n := 252) (S := [(4, .pointer (some ⟨g4, 0, none⟩)), (9, .bool true), (10, .slice a1 la.length c1), (11, .slice b1 ta.length d1), (13, .slice a2 lb.length c2), (14, .slice b2 tb.length d2), (15, .int .i64 eb), (21, .slice a5 lx.length c5), (22, .slice b6 tx.length d6), (23, .int .i64 ex), (2, .int .i64 day), (18, .slice a3 (la.map fun x => (x.1 + 1, -x.2)).length c3), (19, .slice b3 (ta.map fun x => (x.1, -x.2)).length d3)]) (m := []) (fun J => ?_) ?_ ?_ ?_
    · exact parts_k1 hB1 hN p1 y4 q1 q3 q5 q2 q4 q6 q7 q8 p2 p3 p4 p5 p6 hfh J
    · kernel_chk
    · kernel_chk
    · kernel_chk
end Go.Proofs.YthnojedlndblbabGreatDoor
