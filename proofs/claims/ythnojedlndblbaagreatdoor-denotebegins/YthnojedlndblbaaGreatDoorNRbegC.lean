/- the text NRbeg -/
import Derived.Test.YthnojedlndblbaaGreatDoorNGm
import Derived.Test.YthnojedlndblbaaGreatDoorNGk
import Derived.Test.YthnojedlndblbaaGreatDoorNGd
namespace Go.Proofs.YthnojedlndblbaaGreatDoor
open Go Go.RowKit

set_option maxRecDepth 100000 in
seal rn rnN rnS Goes ans atEnd put0 put putM opened openedY putA0 putA oneSt st0 keep mkSt newSt in
theorem rbegin_any {fs : Fs} {fv u : Value} {c : Co} {w : World} (day : Int) (hN : Nc w.heap.size w u c) (hF : Fds w.heap.size w fv fs) (hl : ∀ f ∈ fs, f.1.length ≤ 9223372036854775807) : Calls Tryz.prog 13 #[u, .int .i64 day, fv] w (LTQ day w (begR fs day c)) := by
  obtain ⟨op, k, t, a, N, cc, rfl⟩ := hN.cells
  obtain ⟨aF, NF, cF, rfl⟩ : ∃ aF NF cF, fv = .slice aF NF cF := by obtain ⟨x, y, e, -⟩ := hF; exact ⟨x, _, y, e⟩
  obtain ⟨E, hE⟩ : ∃ E, chkP c = E := ⟨_, rfl⟩
  have hV : begR fs day c = bif E == 0 && (dayP day && rfP fs) then (acq fs day c 0 1000000, 0) else (r0, 150) := by unfold begR; rw [hE]
  have bad : ∀ w', Below w.heap.size w w' → (E == 0 && (dayP day && rfP fs)) = false → LTQ day w (begR fs day c) (.returned (.tuple #[.slice none 0 0, .slice none 0 0, .int .i64 150])) w' := fun w' hB h => ⟨.slice none 0 0, .slice none 0 0, by rw [hV, h]; rfl, by rw [hV, h]; exact Lvs.nil, by rw [hV, h]; exact Trs.nil, hB⟩
  refine Goes.begin Tryz.func13 [] (fun _ => True) Holds.nil (by simp [Mem.ids]) (fun _ _ => trivial) ?_
  refine Goes.run1 [] [] trivial fun g3 => ?_
  refine Goes.call0 20 #[.slice aF NF cF] (.bool (rfP fs)) (fun w' _ hI => rfeedsR_any (hF.at (bel0 hI)) hl) ?_
  refine Goes.run [] [] trivial ?_
  refine Goes.call0 25 #[.int .i64 day] (.bool (dayP day)) (fun w' _ _ => rday_any day w') ?_
  refine Goes.run [0] [] trivial ?_
  refine Goes.call0 30 #[cv op k t (.slice a N cc)] (.int .i64 E) (fun w' _ hI => by have := rcheck_any (hN.at (bel0 hI)); rwa [hE] at this) ?_
  cases h0 : (E == 0) with
  | false =>
    refine Goes.run [1, 1, 1] [(true, true), (true, true), (E != 0, true)] ⟨rfl, rfl, by rw [bne, h0]; rfl, trivial⟩ ?_
    exact Goes.ret [] (.tuple #[.slice none 0 0, .slice none 0 0, .int .i64 150]) fun w' hm hI => bad w' (bel0 hI) (by rw [h0]; rfl)
  | true =>
    cases hR : rfP fs with
    | false =>
      refine Goes.run [0, 1, 1] [(true, true), (true, true), (E != 0, false)] ⟨rfl, rfl, by rw [bne, h0]; rfl, trivial⟩ ?_
      exact Goes.ret [] (.tuple #[.slice none 0 0, .slice none 0 0, .int .i64 150]) fun w' hm hI => bad w' (bel0 hI) (by rw [h0, hR, Bool.and_false]; rfl)
    | true =>
      cases hD : dayP day with
      | false =>
        refine Goes.run [0, 0, 1] [(true, true), (false, false), (E != 0, false)] ⟨rfl, rfl, by rw [bne, h0]; rfl, trivial⟩ ?_
        exact Goes.ret [] (.tuple #[.slice none 0 0, .slice none 0 0, .int .i64 150]) fun w' hm hI => bad w' (bel0 hI) (by rw [h0, hR, hD]; rfl)
      | true =>
        have hV2 : begR fs day c = (acq fs day c 0 1000000, 0) := by rw [hV, h0, hR, hD]; rfl
        obtain ⟨htyp, hszc, -⟩ := chk_typ (c := c) (by rw [hE]; exact h0)
        rw [hV2]
        refine Goes.run1 [0, 0, 0, 0] [(false, false), (false, false), (E != 0, false)] ⟨rfl, rfl, by rw [bne, h0]; rfl, trivial⟩ fun gw => ?_
        refine Goes.call 31 #[.pointer (some ⟨gw, 0, none⟩), cv op k t (.slice a N cc), .int .i64 0, .int .i64 1000000] fun w3 hm3 hn3 hI3 => ?_
        have hB3 : Below w.heap.size w w3 := bel0 hI3
        have hf2 : w.heap.size ≤ gw := fresh_of hI3 (g := gw) (ids_get (j := 1) (o := rO day (.slice aF NF cF) (.slice none 0 0) (.slice none 0 0)) (by kernel_rfl)) (by simp [Mem.ids])
        refine (racquire_any (n0 := w.heap.size) (g := gw) (day := day) (fv := .slice aF NF cF) (rf_right hR) hf2 c 1 0 1000000 _ (.slice none 0 0) (.slice none 0 0) [] [] w3 htyp (by omega) (by omega) hszc (hN.later hB3) (hF.later hB3) hB3.size Lvs.nil Trs.nil (hm3.get 1) (by simpa using (by omega : szC c ≤ 10000000))).mono fun e w4 ⟨lv, tv, he4, hg2, hA4⟩ => ?_
        simp only [List.nil_append] at hA4
        have hRt := aq_rows hB3 hf2 hA4
        refine ⟨_, RtI w day lv tv (acq fs day c 0 1000000).1 (acq fs day c 0 1000000).2, [(gw, rO day (.slice aF NF cF) lv tv)], he4, holds1 hg2, by simp [Mem.ids], hRt.stay (fun y hy => by simp [Mem.ids] at hy; subst hy; exact ⟨hf2, _, _, _, hg2, by decide, by decide⟩), ?_⟩
        refine Goes.run [] [] trivial ?_
        refine Goes.open [0] ?_
        refine Goes.run [0, 1, 2, 3, 0, 4, 5, 6, 7, 0, 8, 9, 10] [] trivial ?_
        exact Goes.ret [] (.tuple #[lv, tv, .int .i64 0]) fun w' hm hI => ⟨lv, tv, rfl, hI.now.2.1, hI.now.2.2, hI.now.1⟩
theorem beg_len {fs : Fs} {day : Int} {c : Co} : (begR fs day c).1.1.length ≤ 1000000000 ∧ (begR fs day c).1.2.length ≤ 1000000000 := by
  rcases beg_cases fs day c with ⟨h1, h2⟩ | ⟨h1, -⟩
  · have hc := (chk_typ (c := c) (by simp only [Bool.and_eq_true] at h2; exact h2.1)).2.1
    have := acq_len fs day c 0 1000000
    rw [h1]
    constructor <;> (simp only; omega)
  · rw [h1]; simp [r0]
set_option maxRecDepth 100000 in
seal rn rnN rnS Goes ans atEnd put0 put putM opened openedY putA0 putA oneSt st0 keep mkSt newSt in
theorem begins_walk {fs : Fs} {fv u : Value} {c : Co} {w : World} (day : Int) (hT : Tab w) (htl : 1 < w.heap.size) (hN : Nc w.heap.size w u c) (hF : Fds w.heap.size w fv fs) (hl : ∀ f ∈ fs, f.1.length ≤ 9223372036854775807) : Calls Tryz.prog 4 #[u, .int .i64 day, fv] w fun e w' => e = .returned (.bool true) ∧ Below w.heap.size w w' := by
  obtain ⟨op, k, t, a, N, cc, rfl⟩ := hN.cells
  obtain ⟨aF, NF, cF, rfl⟩ : ∃ aF NF cF, fv = .slice aF NF cF := by obtain ⟨x, y, e, -⟩ := hF; exact ⟨x, _, y, e⟩
  obtain ⟨l, t0, e0, hr⟩ : ∃ l t0 e0, begR fs day c = ((l, t0), e0) := ⟨_, _, _, rfl⟩
  obtain ⟨hl1, hl2⟩ := beg_len (fs := fs) (day := day) (c := c)
  rw [hr] at hl1 hl2
  refine Goes.begin Tryz.func4 [] (fun _ => True) Holds.nil (by simp [Mem.ids]) (fun _ _ => trivial) ?_
  refine Goes.run1 [] [] trivial fun g3 => ?_
  refine Goes.call0 9 #[] (.bool true) (fun w' _ hI => shownd_any w' (hT.below (bel0 hI)) (Nat.lt_of_lt_of_le htl (bel0 hI).size)) ?_
  refine Goes.run [0] [] trivial ?_
  refine Goes.callLT 12 #[cv op k t (.slice a N cc), .int .i64 day, .slice aF NF cF] day ((l, t0), e0) w.heap.size (fun w1 hm hI => by have := begin_any day (hT.below (bel0 hI)) (Nat.lt_of_lt_of_le htl (bel0 hI).size) (hN.at (bel0 hI)) (hF.at (bel0 hI)) hl; rwa [hr] at this) (fun w' h => h.1.size) fun aL cL aT cT => ?_
  refine Goes.run [0] [] trivial ?_
  refine Goes.callLT 13 #[cv op k t (.slice a N cc), .int .i64 day, .slice aF NF cF] day ((l, t0), e0) w.heap.size (fun w1 hm hI => by have hB := bel0 (hI.mono fun _ h => h.1); have := rbegin_any day (hN.at hB) (hF.at hB) hl; rwa [hr] at this) (fun w' h => h.1.1.size) fun aM cM aU cU => ?_
  refine Goes.run [1] [(true, true)] ⟨rfl, trivial⟩ ?_
  refine Goes.call0 14 #[.slice aL l.length cL, .slice aM l.length cM] (.bool true) (fun w' _ hI => samelives_any hI.now.1.2.1 hI.now.2.1 hl1) ?_
  refine Goes.run [1] [(true, true)] ⟨rfl, trivial⟩ ?_
  refine Goes.call0 15 #[.slice aT t0.length cT, .slice aU t0.length cU] (.bool true) (fun w' _ hI => sametrans_any hI.now.1.2.2 hI.now.2.2 hl2) ?_
  refine Goes.upto 46 [1] [(true, true)] ⟨rfl, trivial⟩ ?_
  refine Goes.slot 45 (.bool true) (u := .bool (e0 == e0)) (congrArg _ (beq_self_eq_true e0)) ?_
  refine Goes.run [] [] trivial ?_
  exact Goes.ret [] (.bool true) fun w' hm hI => ⟨rfl, bel0 (hI.mono fun _ h => h.1.1)⟩
end Go.Proofs.YthnojedlndblbaaGreatDoor
