/- the text NTimesW -/
import Derived.Test.YthnojedlndblbabGreatDoorNGm
import Derived.Test.YthnojedlndblbabGreatDoorNGk
import Derived.Test.YthnojedlndblbabGreatDoorNGj
namespace Go.Proofs.YthnojedlndblbabGreatDoor
open Go Go.RowKit

theorem kid_at {w : World} {b n : Nat} {xs : List Value} {z : Nat × Nat} {i : Nat} {op k : Int} {s : List UInt8} {u : Value} (hb : w.heap[b]? = some (.cells xs.toArray 24 z)) (h0 : xs[i * 4]? = some (.int .i64 op)) (h1 : xs[i * 4 + 1]? = some (.int .i64 k)) (h2 : xs[i * 4 + 2]? = some (strV s)) (h3 : xs[i * 4 + 3]? = some u) (hn : b < n) : ∃ b' o, (some (⟨b, 0, none⟩ : Addr)) = some ⟨b', o, none⟩ ∧ b' < n ∧ Cl4 w b' (o + i * 4) (cv op k s u) := by
  refine ⟨b, 0, rfl, hn, op, k, s, u, rfl, ?_, ?_, ?_, ?_⟩ <;> rw [Nat.zero_add]
  · exact cell_obj hb (by simpa using h0)
  · exact cell_obj hb (by simpa using h1)
  · exact cell_obj hb (by simpa using h2)
  · exact cell_obj hb (by simpa using h3)
theorem leaf_nc {n : Nat} {w : World} {op k : Int} {s : List UInt8} (h : Fits op k s) : Nc n w (cv op k s (.slice none 0 0)) (.mk op k s []) :=
  Nc.mk op k s [] none 0 (fun _ => .bool false) h ⟨Nat.le_refl _, by omega⟩ (fun i h => absurd h (by simp)) (fun i t h => by simp at h)
/-- A term of two kids that was laid in a row of two. -/
theorem pair_nc {w : World} {b : Nat} {z : Nat × Nat} {op k o0 k0 o1 k1 : Int} {s s0 s1 : List UInt8} {u0 u1 : Value} {c0 c1 : Co} (hf : Fits op k s) (hb : w.heap[b]? = some (.cells [.int .i64 o0, .int .i64 k0, strV s0, u0, .int .i64 o1, .int .i64 k1, strV s1, u1].toArray 24 z)) (h0 : Nc w.heap.size w (cv o0 k0 s0 u0) c0) (h1 : Nc w.heap.size w (cv o1 k1 s1 u1) c1) : Nc w.heap.size w (cv op k s (.slice (some ⟨b, 0, none⟩) 2 2)) (.mk op k s [c0, c1]) := by
  have hn := lt_of_get hb
  refine Nc.mk op k s [c0, c1] (some ⟨b, 0, none⟩) 2 (fun i => if i = 0 then cv o0 k0 s0 u0 else cv o1 k1 s1 u1) hf ⟨by simp, by omega⟩ (fun i hi => ?_) (fun i t h => ?_)
  · match i, hi with
    | 0, _ => exact kid_at hb rfl rfl rfl rfl hn
    | 1, _ => exact kid_at hb rfl rfl rfl rfl hn
  · match i, h with
    | 0, h => (cases h; exact h0)
    | 1, h => (cases h; exact h1)
theorem rl_at {c : Co} {l : List (Int × Int)} (h : Gd c l) (hf : ∀ x ∈ l, inM x.2) (hc : szC c ≤ 2000) : ∀ x ∈ l, 0 ≤ x.1 ∧ x.1 ≤ 2000 := fun x hx => by
  obtain ⟨h0, t, ht, -⟩ := (rl_facts (by omega) (gd_rl h hf)).2 x hx
  have := (term_in c _ t ht).2.1
  have := szC_pos t
  omega
set_option maxRecDepth 100000 in
set_option maxHeartbeats 8000000 in
seal rn rnN rnS Goes ans atEnd put0 put putM opened openedY putA0 putA oneSt st0 keep mkSt newSt in
theorem times_walk {fs : Fs} {fv u : Value} {c : Co} {w : World} (n day : Int) (hT : Tab w) (htl : 3 < w.heap.size) (hN : Nc w.heap.size w u c) (hF : Fds w.heap.size w fv fs) (hl : ∀ f ∈ fs, f.1.length ≤ 9223372036854775807) : Calls Tryz.prog 5 #[u, .int .i64 n, .int .i64 day, fv] w fun e w' => e = .returned (.bool true) ∧ Below w.heap.size w w' := by
  obtain ⟨op, k, t, a, N, cc, rfl⟩ := hN.cells
  obtain ⟨aF, NF, cF, rfl⟩ : ∃ aF NF cF, fv = .slice aF NF cF := by obtain ⟨x, y, e, -⟩ := hF; exact ⟨x, _, y, e⟩
  refine Goes.begin Tryz.func5 [] (fun _ => True) Holds.nil (by simp [Mem.ids]) (fun _ _ => trivial) ?_
  refine Goes.run1 [] [] trivial fun g4 => ?_
  refine Goes.call0 6 #[] (.bool true) (fun w' _ hI => shownd_any w' (hT.below (bel0 hI)) (Nat.lt_of_lt_of_le htl (bel0 hI).size)) ?_
  cases h1 : decide (n < -1000000000000000) with
  | true =>
    refine Goes.upto 27 [] [] trivial ?_
    refine Goes.slot 26 (.bool true) (u := .bool (decide (n < -1000000000000000))) (congrArg _ h1) ?_
    refine Goes.run [1, 1] [(true, true), (true, true)] ⟨rfl, rfl, trivial⟩ ?_
    exact Goes.ret [] (.bool true) fun w' hm hI => ⟨rfl, bel0 hI⟩
  | false =>
  refine Goes.upto 27 [] [] trivial ?_
  refine Goes.slot 26 (.bool false) (u := .bool (decide (n < -1000000000000000))) (congrArg _ h1) ?_
  cases h2 : decide (n > 1000000000000000) with
  | true =>
    refine Goes.upto 30 [0] [(false, false)] ⟨rfl, trivial⟩ ?_
    refine Goes.slot 29 (.bool true) (u := .bool (decide (n > 1000000000000000))) (congrArg _ h2) ?_
    refine Goes.run [1] [(true, true)] ⟨rfl, trivial⟩ ?_
    exact Goes.ret [] (.bool true) fun w' hm hI => ⟨rfl, bel0 hI⟩
  | false =>
  refine Goes.upto 30 [0] [(false, false)] ⟨rfl, trivial⟩ ?_
  refine Goes.slot 29 (.bool false) (u := .bool (decide (n > 1000000000000000))) (congrArg _ h2) ?_
  have hin : inM n := by have := of_decide_eq_false h1; have := of_decide_eq_false h2; unfold inM; omega
  refine Goes.run3 [0, 1, 2, 1] [(false, false)] ⟨rfl, trivial⟩ fun g10 g11 gr => ?_
  cases hR : (dayP day && rfP fs) with
  | false =>
    have bad : ∀ c, begR fs day c = (r0, 150) := fun c => by unfold begR; rw [hR, Bool.and_false]; rfl
    refine Goes.callLT 7 #[cv 26 0 [] (.slice (some ⟨gr, 0, none⟩) 2 2), .int .i64 day, .slice aF NF cF] day (r0, 150) w.heap.size (fun w1 hm hI => by have hB := bel0 hI; have := begin_any (c := (timC n (.mk 24 0 EURd []))) day (hT.below hB) (Nat.lt_of_lt_of_le htl hB.size) (pair_nc (w := w1) (b := gr) (z := (0, 0)) ⟨by omega, by omega, by simp⟩ (hm.get 3) (leaf_nc ⟨by omega, by unfold inM at hin; omega, by simp⟩) (leaf_nc ⟨by omega, by omega, by simp [EURd]⟩)) (hF.at hB) hl; rwa [bad] at this) (fun w' h => h.1.size) fun a1 c1 b1 d1 => ?_
    refine Goes.run [0] [] trivial ?_
    refine Goes.callLT 7 #[cv op k t (.slice a N cc), .int .i64 day, .slice aF NF cF] day (r0, 150) w.heap.size (fun w1 hm hI => by have hB := bel0 (hI.mono fun _ h => h.1); have := begin_any (c := c) day (hT.below hB) (Nat.lt_of_lt_of_le htl hB.size) (hN.at hB) (hF.at hB) hl; rwa [bad] at this) (fun w' h => h.1.1.size) fun a2 c2 b2 d2 => ?_
    refine Goes.run1 [2, 0] [] trivial fun gs => ?_
    refine Goes.callLT 7 #[cv 26 0 [] (.slice (some ⟨gs, 0, none⟩) 2 2), .int .i64 day, .slice aF NF cF] day (r0, 150) w.heap.size (fun w1 hm hI => by have hB := bel0 (hI.mono fun _ h => h.1.1); have := begin_any (c := (timC 1000000 c)) day (hT.below hB) (Nat.lt_of_lt_of_le htl hB.size) (pair_nc (w := w1) (b := gs) (z := (0, 0)) ⟨by omega, by omega, by simp⟩ (hm.get 4) (leaf_nc ⟨by omega, by omega, by simp⟩) (hN.at hB)) (hF.at hB) hl; rwa [bad] at this) (fun w' h => h.1.1.1.size) fun a3 c3 b3 d3 => ?_
    refine Goes.run [] [] trivial ?_
    refine Goes.call0 15 #[.slice aF NF cF] (.bool (rfP fs)) (fun w' _ hI => rfeedsR_any (hF.at (bel0 (hI.mono fun _ h => h.1.1.1))) hl) ?_
    cases hf : rfP fs with
    | false =>
      refine Goes.run [1, 1, 1, 1, 1, 1] [(true, true), (true, true), (true, true), (true, true), (true, true), (true, true)] ⟨rfl, rfl, rfl, rfl, rfl, rfl, trivial⟩ ?_
      exact Goes.ret [] (.bool true) fun w' hm hI => ⟨rfl, bel0 (hI.mono fun _ h => h.1.1.1)⟩
    | true =>
      have hd : dayP day = false := by rw [hf, Bool.and_true] at hR; exact hR
      unfold dayP at hd
      cases h3 : decide (day < 0) with
      | true =>
        refine Goes.upto 72 [0] [(false, false)] ⟨rfl, trivial⟩ ?_
        refine Goes.slot 71 (.bool true) (u := .bool (decide (day < 0))) (congrArg _ h3) ?_
        refine Goes.run [1, 1, 1, 1, 1] [(true, true), (true, true), (true, true), (true, true), (true, true)] ⟨rfl, rfl, rfl, rfl, rfl, trivial⟩ ?_
        exact Goes.ret [] (.bool true) fun w' hm hI => ⟨rfl, bel0 (hI.mono fun _ h => h.1.1.1)⟩
      | false =>
        have h4 : decide (day > 73048) = true := by
          have := of_decide_eq_false h3
          rw [decide_eq_true (show 0 ≤ day by omega), Bool.true_and] at hd
          have := of_decide_eq_false hd
          exact decide_eq_true (by omega)
        refine Goes.upto 72 [0] [(false, false)] ⟨rfl, trivial⟩ ?_
        refine Goes.slot 71 (.bool false) (u := .bool (decide (day < 0))) (congrArg _ h3) ?_
        refine Goes.upto 76 [0] [(false, false)] ⟨rfl, trivial⟩ ?_
        refine Goes.slot 75 (.bool true) (u := .bool (decide (day > 73048))) (congrArg _ h4) ?_
        refine Goes.run [1, 1, 1, 1] [(true, true), (true, true), (true, true), (true, true)] ⟨rfl, rfl, rfl, rfl, trivial⟩ ?_
        exact Goes.ret [] (.bool true) fun w' hm hI => ⟨rfl, bel0 (hI.mono fun _ h => h.1.1.1)⟩
  | true =>
    have hD := day_in (Bool.and_eq_true_iff.1 hR).1
    have hf : rfP fs = true := (Bool.and_eq_true_iff.1 hR).2
    have h3 : decide (day < 0) = false := decide_eq_false (by omega)
    have h4 : decide (day > 73048) = false := decide_eq_false (by omega)
    have hb1 := beg_eur (day := day) hin hR
    cases h0 : (n == 0) with
    | true =>
      rw [h0, cond_true] at hb1
      rcases beg_cases fs day c with ⟨hb2, -⟩ | ⟨hb2, -⟩
      · rcases beg_cases fs day (timC 1000000 c) with ⟨hb3, -⟩ | ⟨hb3, -⟩
        · obtain ⟨l2, t2, hr2⟩ : ∃ l t0, acq fs day c 0 1000000 = (l, t0) := ⟨_, _, rfl⟩
          have hgd := gd_acq fs day c 1000000
          have hfc := acq_fac fs day c 0 1000000 inM_one
          have hac := acq_len fs day c 0 1000000
          rw [hr2] at hb2 hgd hfc hac
          obtain ⟨r3, hr3⟩ : ∃ r, acq fs day (timC 1000000 c) 0 1000000 = r := ⟨_, rfl⟩
          rw [hr3] at hb3
          obtain ⟨r', e1, e2⟩ := beg_once hb3
          obtain rfl : r' = (l2, t2) := by rw [hb2] at e1; cases e1; rfl
          subst e2
          have hsz : szC c ≤ 2000 := (chk_typ (c := c) (by unfold begR at hb2; cases hk : (chkP c == 0) with | true => rfl | false => rw [hk] at hb2; cases hb2)).2.1
          have hlt2 : t2.length ≤ 1000000000 := by simp only at hac; omega
          obtain ⟨l3, hl3⟩ : ∃ l3, l2.map (fun x : Int × Int => (x.1 + 2, x.2)) = l3 := ⟨_, rfl⟩
          have hb3 : begR fs day (timC 1000000 c) = ((l3, t2), 0) := by rw [hb3, ← hl3]; rfl
          obtain ⟨M, hM⟩ : ∃ M, l2.length = M := ⟨_, rfl⟩
          have hM3 : l3.length = M := by rw [← hl3, List.length_map, hM]
          have hM9 : M ≤ 2000 := by
            have := (rl_facts (by omega) (gd_rl hgd hfc)).1
            rw [hM] at this
            omega
          refine Goes.callLT 7 #[cv 26 0 [] (.slice (some ⟨gr, 0, none⟩) 2 2), .int .i64 day, .slice aF NF cF] day (r0, 0) w.heap.size (fun w1 hm hI => by have hB := bel0 hI; have := begin_any (c := (timC n (.mk 24 0 EURd []))) day (hT.below hB) (Nat.lt_of_lt_of_le htl hB.size) (pair_nc (w := w1) (b := gr) (z := (0, 0)) ⟨by omega, by omega, by simp⟩ (hm.get 3) (leaf_nc ⟨by omega, by unfold inM at hin; omega, by simp⟩) (leaf_nc ⟨by omega, by omega, by simp [EURd]⟩)) (hF.at hB) hl; rwa [hb1] at this) (fun w' h => h.1.size) fun a1 c1 b1 d1 => ?_
          refine Goes.run [0] [] trivial ?_
          refine Goes.callLT 7 #[cv op k t (.slice a N cc), .int .i64 day, .slice aF NF cF] day ((l2, t2), 0) w.heap.size (fun w1 hm hI => by have hB := bel0 (hI.mono fun _ h => h.1); have := begin_any (c := c) day (hT.below hB) (Nat.lt_of_lt_of_le htl hB.size) (hN.at hB) (hF.at hB) hl; rwa [hb2] at this) (fun w' h => h.1.1.size) fun a2 c2 b2 d2 => ?_
          refine Goes.run1 [2, 0] [] trivial fun gs => ?_
          refine Goes.callLT 7 #[cv 26 0 [] (.slice (some ⟨gs, 0, none⟩) 2 2), .int .i64 day, .slice aF NF cF] day ((l3, t2), 0) w.heap.size (fun w1 hm hI => by have hB := bel0 (hI.mono fun _ h => h.1.1); have := begin_any (c := (timC 1000000 c)) day (hT.below hB) (Nat.lt_of_lt_of_le htl hB.size) (pair_nc (w := w1) (b := gs) (z := (0, 0)) ⟨by omega, by omega, by simp⟩ (hm.get 4) (leaf_nc ⟨by omega, by omega, by simp⟩) (hN.at hB)) (hF.at hB) hl; rwa [hb3] at this) (fun w' h => h.1.1.1.size) fun a3 c3 b3 d3 => ?_
          refine Goes.run [] [] trivial ?_
          refine Goes.call0 15 #[.slice aF NF cF] (.bool (rfP fs)) (fun w' _ hI => rfeedsR_any (hF.at (bel0 (hI.mono fun _ h => h.1.1.1))) hl) ?_
          rw [hf]
          refine Goes.upto 72 [0] [(false, false)] ⟨rfl, trivial⟩ ?_
          refine Goes.slot 71 (.bool false) (u := .bool (decide (day < 0))) (congrArg _ h3) ?_
          refine Goes.upto 76 [0] [(false, false)] ⟨rfl, trivial⟩ ?_
          refine Goes.slot 75 (.bool false) (u := .bool (decide (day > 73048))) (congrArg _ h4) ?_
          refine Goes.run [0, 0] [(n != 0, false), (false, false)] ⟨by rw [bne, h0]; rfl, rfl, trivial⟩ ?_
          refine Goes.run [0, 0, 0] [((l2.length : Int) != (l3.length : Int), false), (false, false), (false, false)] ⟨by rw [hM, hM3]; simp, rfl, rfl, trivial⟩ ?_
          refine Goes.rebase fun w1 hm1 hn1 hI1 => ?_
          have hB1 : Below w.heap.size w w1 := bel0 (hI1.mono fun _ h => h.1.1.1)
          have hL2 := hI1.now.1.2.1
          have hT2 := hI1.now.1.2.2
          have hL3 := hI1.now.2.1
          have hT3 := hI1.now.2.2
          simp only at hL2 hT2 hL3 hT3
          refine ⟨fun w' => Ch (Mem.ids []) w1 w' ∧ True, [], Holds.nil, by simp [Mem.ids], fun w' h => ⟨h, trivial⟩, ?_⟩
          refine Goes.loop0 (α := Nat) 185 (fun i => [(9, .bool true), (12, .slice a1 0 c1), (14, .int .i64 0), (15, .slice a2 l2.length c2), (16, .slice b2 t2.length d2), (18, .slice a3 l3.length c3), (19, .slice b3 t2.length d3), (22, .bool true), (23, .int .i64 i)]) [] (fun i => i ≤ M) (fun i => M - i) 0 (Nat.zero_le _) ?_
          rintro i J hi back
          cases hlt : decide ((i : Int) < (l2.length : Int)) with
          | false =>
            refine Goes.run [0, 0, 1, 1, 1, 1] [(true, true), (true, true), (true, true), (true, true), (decide ((i : Int) < (l2.length : Int)), false)] ⟨rfl, rfl, rfl, rfl, hlt, trivial⟩ ?_
            refine Goes.call0 10 #[.slice b2 t2.length d2, .slice b3 t2.length d3] (.bool true) (fun w' _ hI => sametrans_any (own_ch hT2 hI.now.1 (by simp [Mem.ids])) (own_ch hT3 hI.now.1 (by simp [Mem.ids])) hlt2) ?_
            refine Goes.run [] [] trivial ?_
            exact Goes.ret [] (.bool true) fun w' hm hI => ⟨rfl, hB1.trans ((bel0 hI).mono hB1.size)⟩
          | true =>
            have hil : i < M := by have := of_decide_eq_true hlt; omega
            obtain ⟨q, hq⟩ : ∃ q, l2[i]? = some q := ⟨l2[i]'(by omega), by simp⟩
            have hq3 : l3[i]? = some (q.1 + 2, q.2) := by rw [← hl3, List.getElem?_map, hq]; rfl
            obtain ⟨hq0, hq1⟩ := rl_at hgd hfc hsz q (List.mem_of_getElem? hq)
            obtain ⟨g, cap, cur, he, hg, -, -, hc⟩ := own_open hL2 (by omega)
            obtain ⟨g', cap', cur', he', hg', -, -, hc'⟩ := own_open hL3 (by omega)
            cases he
            cases he'
            refine Goes.run [0, 1] [(decide ((i : Int) < (l2.length : Int)), true)] ⟨hlt, trivial⟩ ?_
            refine Goes.openY [] [(g, .cells cur 35 (0, 0)), (g', .cells cur' 35 (0, 0))] (fun w' hI => hex2 hg hg' hI.1) ?_
            refine Goes.run [0, 1] [] trivial ?_
            refine Goes.valA 2 (Instr.indexAt 27 (.slice (some ⟨g', 0, none⟩) l3.length c3) (.int .i64 i)) (.pointer (some ⟨g', i * 2, none⟩)) (fun w' _ => idxLv0 g' l3.length c3 i (by omega) w') ?_
            refine Goes.run [3] [] trivial ?_
            refine Goes.valA 4 (Instr.loadAt 3 (.pointer (some ⟨g', i * 2, none⟩))) (.int .i64 (q.1 + 2)) (fun w' hm => load1 Tryz.isAgg3 (cell_obj (t := 35) (z := (0, 0)) (hm.get 1) (hc' _ _ (lvC_at hq3).1))) ?_
            refine Goes.run [5, 6] [] trivial ?_
            refine Goes.valA 7 (Instr.indexAt 27 (.slice (some ⟨g, 0, none⟩) l2.length c2) (.int .i64 i)) (.pointer (some ⟨g, i * 2, none⟩)) (fun w' _ => idxLv0 g l2.length c2 i (by omega) w') ?_
            refine Goes.run [8] [] trivial ?_
            refine Goes.valA 9 (Instr.loadAt 3 (.pointer (some ⟨g, i * 2, none⟩))) (.int .i64 q.1) (fun w' hm => load1 Tryz.isAgg3 (cell_obj (t := 35) (z := (0, 0)) (hm.get 0) (hc _ _ (lvC_at hq).1))) ?_
            refine Goes.run [10] [] trivial ?_
            refine Goes.slot 152 (.int .i64 (q.1 + 2)) (u := .int .i64 (IntKind.i64.wrap (q.1 + 2))) (congrArg _ (IntWalk.i64_in _ ⟨by omega, by omega⟩)) ?_
            refine Goes.run [11] [] trivial ?_
            refine Goes.slot 153 (.bool false) (u := .bool ((q.1 + 2) != (q.1 + 2))) (congrArg _ (by simp)) ?_
            refine Goes.run [12, 13, 14] [] trivial ?_
            refine Goes.valA 15 (Instr.indexAt 27 (.slice (some ⟨g', 0, none⟩) l3.length c3) (.int .i64 i)) (.pointer (some ⟨g', i * 2, none⟩)) (fun w' _ => idxLv0 g' l3.length c3 i (by omega) w') ?_
            refine Goes.run [16] [] trivial ?_
            refine Goes.valA 17 (Instr.loadAt 2 (.pointer (some ⟨g', i * 2 + 1, none⟩))) (.int .i64 q.2) (fun w' hm => load1 Tryz.isAgg2 (cell_obj (t := 35) (z := (0, 0)) (hm.get 1) (hc' _ _ (lvC_at hq3).2))) ?_
            refine Goes.run [18, 19] [] trivial ?_
            refine Goes.valA 20 (Instr.indexAt 27 (.slice (some ⟨g, 0, none⟩) l2.length c2) (.int .i64 i)) (.pointer (some ⟨g, i * 2, none⟩)) (fun w' _ => idxLv0 g l2.length c2 i (by omega) w') ?_
            refine Goes.run [21] [] trivial ?_
            refine Goes.valA 22 (Instr.loadAt 2 (.pointer (some ⟨g, i * 2 + 1, none⟩))) (.int .i64 q.2) (fun w' hm => load1 Tryz.isAgg2 (cell_obj (t := 35) (z := (0, 0)) (hm.get 0) (hc _ _ (lvC_at hq).2))) ?_
            refine Goes.run [23] [] trivial ?_
            refine Goes.slot 165 (.bool false) (u := .bool (q.2 != q.2)) (congrArg _ (by simp)) ?_
            refine Goes.run [24, 0] [(false, false)] ⟨rfl, trivial⟩ ?_
            refine Goes.slot 23 (.int .i64 (i + 1 : Nat)) (u := .int .i64 (IntKind.i64.wrap ((i : Int) + 1))) (congrArg _ (wrap_nat (by omega))) ?_
            exact back (i + 1) _ hil (by omega) (by kernel_rfl) (by kernel_rfl) (by kernel_rfl)
        · obtain ⟨l2, t2, hr2⟩ : ∃ l t0, acq fs day c 0 1000000 = (l, t0) := ⟨_, _, rfl⟩
          rw [hr2] at hb2
          refine Goes.callLT 7 #[cv 26 0 [] (.slice (some ⟨gr, 0, none⟩) 2 2), .int .i64 day, .slice aF NF cF] day (r0, 0) w.heap.size (fun w1 hm hI => by have hB := bel0 hI; have := begin_any (c := (timC n (.mk 24 0 EURd []))) day (hT.below hB) (Nat.lt_of_lt_of_le htl hB.size) (pair_nc (w := w1) (b := gr) (z := (0, 0)) ⟨by omega, by omega, by simp⟩ (hm.get 3) (leaf_nc ⟨by omega, by unfold inM at hin; omega, by simp⟩) (leaf_nc ⟨by omega, by omega, by simp [EURd]⟩)) (hF.at hB) hl; rwa [hb1] at this) (fun w' h => h.1.size) fun a1 c1 b1 d1 => ?_
          refine Goes.run [0] [] trivial ?_
          refine Goes.callLT 7 #[cv op k t (.slice a N cc), .int .i64 day, .slice aF NF cF] day ((l2, t2), 0) w.heap.size (fun w1 hm hI => by have hB := bel0 (hI.mono fun _ h => h.1); have := begin_any (c := c) day (hT.below hB) (Nat.lt_of_lt_of_le htl hB.size) (hN.at hB) (hF.at hB) hl; rwa [hb2] at this) (fun w' h => h.1.1.size) fun a2 c2 b2 d2 => ?_
          refine Goes.run1 [2, 0] [] trivial fun gs => ?_
          refine Goes.callLT 7 #[cv 26 0 [] (.slice (some ⟨gs, 0, none⟩) 2 2), .int .i64 day, .slice aF NF cF] day (r0, 150) w.heap.size (fun w1 hm hI => by have hB := bel0 (hI.mono fun _ h => h.1.1); have := begin_any (c := (timC 1000000 c)) day (hT.below hB) (Nat.lt_of_lt_of_le htl hB.size) (pair_nc (w := w1) (b := gs) (z := (0, 0)) ⟨by omega, by omega, by simp⟩ (hm.get 4) (leaf_nc ⟨by omega, by omega, by simp⟩) (hN.at hB)) (hF.at hB) hl; rwa [hb3] at this) (fun w' h => h.1.1.1.size) fun a3 c3 b3 d3 => ?_
          refine Goes.run [] [] trivial ?_
          refine Goes.call0 15 #[.slice aF NF cF] (.bool (rfP fs)) (fun w' _ hI => rfeedsR_any (hF.at (bel0 (hI.mono fun _ h => h.1.1.1))) hl) ?_
          rw [hf]
          refine Goes.upto 72 [0] [(false, false)] ⟨rfl, trivial⟩ ?_
          refine Goes.slot 71 (.bool false) (u := .bool (decide (day < 0))) (congrArg _ h3) ?_
          refine Goes.upto 76 [0] [(false, false)] ⟨rfl, trivial⟩ ?_
          refine Goes.slot 75 (.bool false) (u := .bool (decide (day > 73048))) (congrArg _ h4) ?_
          refine Goes.run [0, 0] [(n != 0, false), (false, false)] ⟨by rw [bne, h0]; rfl, rfl, trivial⟩ ?_
          refine Goes.run [0, 1, 1, 1, 1, 1] [(true, true), (true, true), (true, true), (true, true), (true, true), (false, false)] ⟨rfl, rfl, rfl, rfl, rfl, rfl, trivial⟩ ?_
          exact Goes.ret [] (.bool true) fun w' hm hI => ⟨rfl, bel0 (hI.mono fun _ h => h.1.1.1)⟩
      · rcases beg_cases fs day (timC 1000000 c) with ⟨hb3, -⟩ | ⟨hb3, -⟩
        · obtain ⟨r', e1, -⟩ := beg_once hb3
          rw [hb2] at e1
          cases e1
        · skip
          refine Goes.callLT 7 #[cv 26 0 [] (.slice (some ⟨gr, 0, none⟩) 2 2), .int .i64 day, .slice aF NF cF] day (r0, 0) w.heap.size (fun w1 hm hI => by have hB := bel0 hI; have := begin_any (c := (timC n (.mk 24 0 EURd []))) day (hT.below hB) (Nat.lt_of_lt_of_le htl hB.size) (pair_nc (w := w1) (b := gr) (z := (0, 0)) ⟨by omega, by omega, by simp⟩ (hm.get 3) (leaf_nc ⟨by omega, by unfold inM at hin; omega, by simp⟩) (leaf_nc ⟨by omega, by omega, by simp [EURd]⟩)) (hF.at hB) hl; rwa [hb1] at this) (fun w' h => h.1.size) fun a1 c1 b1 d1 => ?_
          refine Goes.run [0] [] trivial ?_
          refine Goes.callLT 7 #[cv op k t (.slice a N cc), .int .i64 day, .slice aF NF cF] day (r0, 150) w.heap.size (fun w1 hm hI => by have hB := bel0 (hI.mono fun _ h => h.1); have := begin_any (c := c) day (hT.below hB) (Nat.lt_of_lt_of_le htl hB.size) (hN.at hB) (hF.at hB) hl; rwa [hb2] at this) (fun w' h => h.1.1.size) fun a2 c2 b2 d2 => ?_
          refine Goes.run1 [2, 0] [] trivial fun gs => ?_
          refine Goes.callLT 7 #[cv 26 0 [] (.slice (some ⟨gs, 0, none⟩) 2 2), .int .i64 day, .slice aF NF cF] day (r0, 150) w.heap.size (fun w1 hm hI => by have hB := bel0 (hI.mono fun _ h => h.1.1); have := begin_any (c := (timC 1000000 c)) day (hT.below hB) (Nat.lt_of_lt_of_le htl hB.size) (pair_nc (w := w1) (b := gs) (z := (0, 0)) ⟨by omega, by omega, by simp⟩ (hm.get 4) (leaf_nc ⟨by omega, by omega, by simp⟩) (hN.at hB)) (hF.at hB) hl; rwa [hb3] at this) (fun w' h => h.1.1.1.size) fun a3 c3 b3 d3 => ?_
          refine Goes.run [] [] trivial ?_
          refine Goes.call0 15 #[.slice aF NF cF] (.bool (rfP fs)) (fun w' _ hI => rfeedsR_any (hF.at (bel0 (hI.mono fun _ h => h.1.1.1))) hl) ?_
          rw [hf]
          refine Goes.upto 72 [0] [(false, false)] ⟨rfl, trivial⟩ ?_
          refine Goes.slot 71 (.bool false) (u := .bool (decide (day < 0))) (congrArg _ h3) ?_
          refine Goes.upto 76 [0] [(false, false)] ⟨rfl, trivial⟩ ?_
          refine Goes.slot 75 (.bool false) (u := .bool (decide (day > 73048))) (congrArg _ h4) ?_
          refine Goes.run [0, 0] [(n != 0, false), (false, false)] ⟨by rw [bne, h0]; rfl, rfl, trivial⟩ ?_
          refine Goes.run [1, 1, 1, 1, 1, 0] [(false, false), (true, true), (true, true), (true, true), (true, true), (true, true)] ⟨rfl, rfl, rfl, rfl, rfl, rfl, trivial⟩ ?_
          exact Goes.ret [] (.bool true) fun w' hm hI => ⟨rfl, bel0 (hI.mono fun _ h => h.1.1.1)⟩
    | false =>
      rw [h0, cond_false] at hb1
      rcases beg_cases fs day c with ⟨hb2, -⟩ | ⟨hb2, -⟩
      · rcases beg_cases fs day (timC 1000000 c) with ⟨hb3, -⟩ | ⟨hb3, -⟩
        · obtain ⟨l2, t2, hr2⟩ : ∃ l t0, acq fs day c 0 1000000 = (l, t0) := ⟨_, _, rfl⟩
          have hgd := gd_acq fs day c 1000000
          have hfc := acq_fac fs day c 0 1000000 inM_one
          have hac := acq_len fs day c 0 1000000
          rw [hr2] at hb2 hgd hfc hac
          obtain ⟨r3, hr3⟩ : ∃ r, acq fs day (timC 1000000 c) 0 1000000 = r := ⟨_, rfl⟩
          rw [hr3] at hb3
          obtain ⟨r', e1, e2⟩ := beg_once hb3
          obtain rfl : r' = (l2, t2) := by rw [hb2] at e1; cases e1; rfl
          subst e2
          have hsz : szC c ≤ 2000 := (chk_typ (c := c) (by unfold begR at hb2; cases hk : (chkP c == 0) with | true => rfl | false => rw [hk] at hb2; cases hb2)).2.1
          have hlt2 : t2.length ≤ 1000000000 := by simp only at hac; omega
          obtain ⟨l3, hl3⟩ : ∃ l3, l2.map (fun x : Int × Int => (x.1 + 2, x.2)) = l3 := ⟨_, rfl⟩
          have hb3 : begR fs day (timC 1000000 c) = ((l3, t2), 0) := by rw [hb3, ← hl3]; rfl
          obtain ⟨M, hM⟩ : ∃ M, l2.length = M := ⟨_, rfl⟩
          have hM3 : l3.length = M := by rw [← hl3, List.length_map, hM]
          have hM9 : M ≤ 2000 := by
            have := (rl_facts (by omega) (gd_rl hgd hfc)).1
            rw [hM] at this
            omega
          refine Goes.callLT 7 #[cv 26 0 [] (.slice (some ⟨gr, 0, none⟩) 2 2), .int .i64 day, .slice aF NF cF] day ((([], [(EURd, n)]) : R2), 0) w.heap.size (fun w1 hm hI => by have hB := bel0 hI; have := begin_any (c := (timC n (.mk 24 0 EURd []))) day (hT.below hB) (Nat.lt_of_lt_of_le htl hB.size) (pair_nc (w := w1) (b := gr) (z := (0, 0)) ⟨by omega, by omega, by simp⟩ (hm.get 3) (leaf_nc ⟨by omega, by unfold inM at hin; omega, by simp⟩) (leaf_nc ⟨by omega, by omega, by simp [EURd]⟩)) (hF.at hB) hl; rwa [hb1] at this) (fun w' h => h.1.size) fun a1 c1 b1 d1 => ?_
          refine Goes.run [0] [] trivial ?_
          refine Goes.callLT 7 #[cv op k t (.slice a N cc), .int .i64 day, .slice aF NF cF] day ((l2, t2), 0) w.heap.size (fun w1 hm hI => by have hB := bel0 (hI.mono fun _ h => h.1); have := begin_any (c := c) day (hT.below hB) (Nat.lt_of_lt_of_le htl hB.size) (hN.at hB) (hF.at hB) hl; rwa [hb2] at this) (fun w' h => h.1.1.size) fun a2 c2 b2 d2 => ?_
          refine Goes.run1 [2, 0] [] trivial fun gs => ?_
          refine Goes.callLT 7 #[cv 26 0 [] (.slice (some ⟨gs, 0, none⟩) 2 2), .int .i64 day, .slice aF NF cF] day ((l3, t2), 0) w.heap.size (fun w1 hm hI => by have hB := bel0 (hI.mono fun _ h => h.1.1); have := begin_any (c := (timC 1000000 c)) day (hT.below hB) (Nat.lt_of_lt_of_le htl hB.size) (pair_nc (w := w1) (b := gs) (z := (0, 0)) ⟨by omega, by omega, by simp⟩ (hm.get 4) (leaf_nc ⟨by omega, by omega, by simp⟩) (hN.at hB)) (hF.at hB) hl; rwa [hb3] at this) (fun w' h => h.1.1.1.size) fun a3 c3 b3 d3 => ?_
          refine Goes.run [] [] trivial ?_
          refine Goes.call0 15 #[.slice aF NF cF] (.bool (rfP fs)) (fun w' _ hI => rfeedsR_any (hF.at (bel0 (hI.mono fun _ h => h.1.1.1))) hl) ?_
          rw [hf]
          refine Goes.upto 72 [0] [(false, false)] ⟨rfl, trivial⟩ ?_
          refine Goes.slot 71 (.bool false) (u := .bool (decide (day < 0))) (congrArg _ h3) ?_
          refine Goes.upto 76 [0] [(false, false)] ⟨rfl, trivial⟩ ?_
          refine Goes.slot 75 (.bool false) (u := .bool (decide (day > 73048))) (congrArg _ h4) ?_
          refine Goes.run [0, 1, 1] [(true, true), (n != 0, true), (false, false)] ⟨rfl, by rw [bne, h0]; rfl, rfl, trivial⟩ ?_
          refine Goes.pure (Q := ∃ gU, b1 = some ⟨gU, 0, none⟩) (fun w' hI => by obtain ⟨g, cap, cur, he, -⟩ := own_open hI.1.1.2.2 (by simp); cases he; exact ⟨g, rfl⟩) fun ⟨gU, hgU⟩ => ?_
          subst hgU
          refine Goes.val (Instr.indexAt 28 (.slice (some ⟨gU, 0, none⟩) 1 d1) (.int .i64 ((0 : Nat) : Int))) (.pointer (some ⟨gU, 0 * 3, none⟩)) (fun w' _ _ => idxTr gU 1 d1 0 (by omega) w') ?_
          refine Goes.val (Instr.loadAt 33 (.pointer (some ⟨gU, 0 * 3, none⟩))) (.agg #[.int .i64 day, strV EURd, .int .i64 n]) (fun w' _ hI => by
            obtain ⟨g, cap, cur, he, hg, -, -, hc⟩ := own_open hI.now.1.1.2.2 (by simp)
            cases he
            exact loadTr (ts := [(EURd, n)]) (i := 0) hg hc rfl) ?_
          refine Goes.upto 107 [] [] trivial ?_
          refine Goes.val (do eqGuard .eql 33 (.tmp 103) (.tmp 106) (.agg #[.int .i64 day, strV EURd, .int .i64 n]) (.agg #[.int .i64 day, strV EURd, .int .i64 n]); binOp .eql 33 (.agg #[.int .i64 day, strV EURd, .int .i64 n]) (.agg #[.int .i64 day, strV EURd, .int .i64 n])) (.bool true) (fun w' _ _ => by have := eql_agg (t := 33) (.tmp 103) (.tmp 106) (by kernel_rfl) (eqTr day EURd n day EURd n w'); simpa using this) ?_
          refine Goes.run [] [] trivial ?_
          refine Goes.run [0, 0, 0] [((l2.length : Int) != (l3.length : Int), false), (false, false), (false, false)] ⟨by rw [hM, hM3]; simp, rfl, rfl, trivial⟩ ?_
          refine Goes.rebase fun w1 hm1 hn1 hI1 => ?_
          have hB1 : Below w.heap.size w w1 := bel0 (hI1.mono fun _ h => h.1.1.1)
          have hL2 := hI1.now.1.2.1
          have hT2 := hI1.now.1.2.2
          have hL3 := hI1.now.2.1
          have hT3 := hI1.now.2.2
          simp only at hL2 hT2 hL3 hT3
          refine ⟨fun w' => Ch (Mem.ids []) w1 w' ∧ True, [], Holds.nil, by simp [Mem.ids], fun w' h => ⟨h, trivial⟩, ?_⟩
          refine Goes.loop0 (α := Nat) 185 (fun i => [(9, .bool true), (12, .slice a1 0 c1), (14, .int .i64 0), (15, .slice a2 l2.length c2), (16, .slice b2 t2.length d2), (18, .slice a3 l3.length c3), (19, .slice b3 t2.length d3), (22, .bool true), (23, .int .i64 i)]) [] (fun i => i ≤ M) (fun i => M - i) 0 (Nat.zero_le _) ?_
          rintro i J hi back
          cases hlt : decide ((i : Int) < (l2.length : Int)) with
          | false =>
            refine Goes.run [0, 0, 1, 1, 1, 1] [(true, true), (true, true), (true, true), (true, true), (decide ((i : Int) < (l2.length : Int)), false)] ⟨rfl, rfl, rfl, rfl, hlt, trivial⟩ ?_
            refine Goes.call0 10 #[.slice b2 t2.length d2, .slice b3 t2.length d3] (.bool true) (fun w' _ hI => sametrans_any (own_ch hT2 hI.now.1 (by simp [Mem.ids])) (own_ch hT3 hI.now.1 (by simp [Mem.ids])) hlt2) ?_
            refine Goes.run [] [] trivial ?_
            exact Goes.ret [] (.bool true) fun w' hm hI => ⟨rfl, hB1.trans ((bel0 hI).mono hB1.size)⟩
          | true =>
            have hil : i < M := by have := of_decide_eq_true hlt; omega
            obtain ⟨q, hq⟩ : ∃ q, l2[i]? = some q := ⟨l2[i]'(by omega), by simp⟩
            have hq3 : l3[i]? = some (q.1 + 2, q.2) := by rw [← hl3, List.getElem?_map, hq]; rfl
            obtain ⟨hq0, hq1⟩ := rl_at hgd hfc hsz q (List.mem_of_getElem? hq)
            obtain ⟨g, cap, cur, he, hg, -, -, hc⟩ := own_open hL2 (by omega)
            obtain ⟨g', cap', cur', he', hg', -, -, hc'⟩ := own_open hL3 (by omega)
            cases he
            cases he'
            refine Goes.run [0, 1] [(decide ((i : Int) < (l2.length : Int)), true)] ⟨hlt, trivial⟩ ?_
            refine Goes.openY [] [(g, .cells cur 35 (0, 0)), (g', .cells cur' 35 (0, 0))] (fun w' hI => hex2 hg hg' hI.1) ?_
            refine Goes.run [0, 1] [] trivial ?_
            refine Goes.valA 2 (Instr.indexAt 27 (.slice (some ⟨g', 0, none⟩) l3.length c3) (.int .i64 i)) (.pointer (some ⟨g', i * 2, none⟩)) (fun w' _ => idxLv0 g' l3.length c3 i (by omega) w') ?_
            refine Goes.run [3] [] trivial ?_
            refine Goes.valA 4 (Instr.loadAt 3 (.pointer (some ⟨g', i * 2, none⟩))) (.int .i64 (q.1 + 2)) (fun w' hm => load1 Tryz.isAgg3 (cell_obj (t := 35) (z := (0, 0)) (hm.get 1) (hc' _ _ (lvC_at hq3).1))) ?_
            refine Goes.run [5, 6] [] trivial ?_
            refine Goes.valA 7 (Instr.indexAt 27 (.slice (some ⟨g, 0, none⟩) l2.length c2) (.int .i64 i)) (.pointer (some ⟨g, i * 2, none⟩)) (fun w' _ => idxLv0 g l2.length c2 i (by omega) w') ?_
            refine Goes.run [8] [] trivial ?_
            refine Goes.valA 9 (Instr.loadAt 3 (.pointer (some ⟨g, i * 2, none⟩))) (.int .i64 q.1) (fun w' hm => load1 Tryz.isAgg3 (cell_obj (t := 35) (z := (0, 0)) (hm.get 0) (hc _ _ (lvC_at hq).1))) ?_
            refine Goes.run [10] [] trivial ?_
            refine Goes.slot 152 (.int .i64 (q.1 + 2)) (u := .int .i64 (IntKind.i64.wrap (q.1 + 2))) (congrArg _ (IntWalk.i64_in _ ⟨by omega, by omega⟩)) ?_
            refine Goes.run [11] [] trivial ?_
            refine Goes.slot 153 (.bool false) (u := .bool ((q.1 + 2) != (q.1 + 2))) (congrArg _ (by simp)) ?_
            refine Goes.run [12, 13, 14] [] trivial ?_
            refine Goes.valA 15 (Instr.indexAt 27 (.slice (some ⟨g', 0, none⟩) l3.length c3) (.int .i64 i)) (.pointer (some ⟨g', i * 2, none⟩)) (fun w' _ => idxLv0 g' l3.length c3 i (by omega) w') ?_
            refine Goes.run [16] [] trivial ?_
            refine Goes.valA 17 (Instr.loadAt 2 (.pointer (some ⟨g', i * 2 + 1, none⟩))) (.int .i64 q.2) (fun w' hm => load1 Tryz.isAgg2 (cell_obj (t := 35) (z := (0, 0)) (hm.get 1) (hc' _ _ (lvC_at hq3).2))) ?_
            refine Goes.run [18, 19] [] trivial ?_
            refine Goes.valA 20 (Instr.indexAt 27 (.slice (some ⟨g, 0, none⟩) l2.length c2) (.int .i64 i)) (.pointer (some ⟨g, i * 2, none⟩)) (fun w' _ => idxLv0 g l2.length c2 i (by omega) w') ?_
            refine Goes.run [21] [] trivial ?_
            refine Goes.valA 22 (Instr.loadAt 2 (.pointer (some ⟨g, i * 2 + 1, none⟩))) (.int .i64 q.2) (fun w' hm => load1 Tryz.isAgg2 (cell_obj (t := 35) (z := (0, 0)) (hm.get 0) (hc _ _ (lvC_at hq).2))) ?_
            refine Goes.run [23] [] trivial ?_
            refine Goes.slot 165 (.bool false) (u := .bool (q.2 != q.2)) (congrArg _ (by simp)) ?_
            refine Goes.run [24, 0] [(false, false)] ⟨rfl, trivial⟩ ?_
            refine Goes.slot 23 (.int .i64 (i + 1 : Nat)) (u := .int .i64 (IntKind.i64.wrap ((i : Int) + 1))) (congrArg _ (wrap_nat (by omega))) ?_
            exact back (i + 1) _ hil (by omega) (by kernel_rfl) (by kernel_rfl) (by kernel_rfl)
        · obtain ⟨l2, t2, hr2⟩ : ∃ l t0, acq fs day c 0 1000000 = (l, t0) := ⟨_, _, rfl⟩
          rw [hr2] at hb2
          refine Goes.callLT 7 #[cv 26 0 [] (.slice (some ⟨gr, 0, none⟩) 2 2), .int .i64 day, .slice aF NF cF] day ((([], [(EURd, n)]) : R2), 0) w.heap.size (fun w1 hm hI => by have hB := bel0 hI; have := begin_any (c := (timC n (.mk 24 0 EURd []))) day (hT.below hB) (Nat.lt_of_lt_of_le htl hB.size) (pair_nc (w := w1) (b := gr) (z := (0, 0)) ⟨by omega, by omega, by simp⟩ (hm.get 3) (leaf_nc ⟨by omega, by unfold inM at hin; omega, by simp⟩) (leaf_nc ⟨by omega, by omega, by simp [EURd]⟩)) (hF.at hB) hl; rwa [hb1] at this) (fun w' h => h.1.size) fun a1 c1 b1 d1 => ?_
          refine Goes.run [0] [] trivial ?_
          refine Goes.callLT 7 #[cv op k t (.slice a N cc), .int .i64 day, .slice aF NF cF] day ((l2, t2), 0) w.heap.size (fun w1 hm hI => by have hB := bel0 (hI.mono fun _ h => h.1); have := begin_any (c := c) day (hT.below hB) (Nat.lt_of_lt_of_le htl hB.size) (hN.at hB) (hF.at hB) hl; rwa [hb2] at this) (fun w' h => h.1.1.size) fun a2 c2 b2 d2 => ?_
          refine Goes.run1 [2, 0] [] trivial fun gs => ?_
          refine Goes.callLT 7 #[cv 26 0 [] (.slice (some ⟨gs, 0, none⟩) 2 2), .int .i64 day, .slice aF NF cF] day (r0, 150) w.heap.size (fun w1 hm hI => by have hB := bel0 (hI.mono fun _ h => h.1.1); have := begin_any (c := (timC 1000000 c)) day (hT.below hB) (Nat.lt_of_lt_of_le htl hB.size) (pair_nc (w := w1) (b := gs) (z := (0, 0)) ⟨by omega, by omega, by simp⟩ (hm.get 4) (leaf_nc ⟨by omega, by omega, by simp⟩) (hN.at hB)) (hF.at hB) hl; rwa [hb3] at this) (fun w' h => h.1.1.1.size) fun a3 c3 b3 d3 => ?_
          refine Goes.run [] [] trivial ?_
          refine Goes.call0 15 #[.slice aF NF cF] (.bool (rfP fs)) (fun w' _ hI => rfeedsR_any (hF.at (bel0 (hI.mono fun _ h => h.1.1.1))) hl) ?_
          rw [hf]
          refine Goes.upto 72 [0] [(false, false)] ⟨rfl, trivial⟩ ?_
          refine Goes.slot 71 (.bool false) (u := .bool (decide (day < 0))) (congrArg _ h3) ?_
          refine Goes.upto 76 [0] [(false, false)] ⟨rfl, trivial⟩ ?_
          refine Goes.slot 75 (.bool false) (u := .bool (decide (day > 73048))) (congrArg _ h4) ?_
          refine Goes.run [0, 1, 1] [(true, true), (n != 0, true), (false, false)] ⟨rfl, by rw [bne, h0]; rfl, rfl, trivial⟩ ?_
          refine Goes.pure (Q := ∃ gU, b1 = some ⟨gU, 0, none⟩) (fun w' hI => by obtain ⟨g, cap, cur, he, -⟩ := own_open hI.1.1.2.2 (by simp); cases he; exact ⟨g, rfl⟩) fun ⟨gU, hgU⟩ => ?_
          subst hgU
          refine Goes.val (Instr.indexAt 28 (.slice (some ⟨gU, 0, none⟩) 1 d1) (.int .i64 ((0 : Nat) : Int))) (.pointer (some ⟨gU, 0 * 3, none⟩)) (fun w' _ _ => idxTr gU 1 d1 0 (by omega) w') ?_
          refine Goes.val (Instr.loadAt 33 (.pointer (some ⟨gU, 0 * 3, none⟩))) (.agg #[.int .i64 day, strV EURd, .int .i64 n]) (fun w' _ hI => by
            obtain ⟨g, cap, cur, he, hg, -, -, hc⟩ := own_open hI.now.1.1.2.2 (by simp)
            cases he
            exact loadTr (ts := [(EURd, n)]) (i := 0) hg hc rfl) ?_
          refine Goes.upto 107 [] [] trivial ?_
          refine Goes.val (do eqGuard .eql 33 (.tmp 103) (.tmp 106) (.agg #[.int .i64 day, strV EURd, .int .i64 n]) (.agg #[.int .i64 day, strV EURd, .int .i64 n]); binOp .eql 33 (.agg #[.int .i64 day, strV EURd, .int .i64 n]) (.agg #[.int .i64 day, strV EURd, .int .i64 n])) (.bool true) (fun w' _ _ => by have := eql_agg (t := 33) (.tmp 103) (.tmp 106) (by kernel_rfl) (eqTr day EURd n day EURd n w'); simpa using this) ?_
          refine Goes.run [] [] trivial ?_
          refine Goes.run [0, 1, 1, 1, 1, 1] [(true, true), (true, true), (true, true), (true, true), (true, true), (false, false)] ⟨rfl, rfl, rfl, rfl, rfl, rfl, trivial⟩ ?_
          exact Goes.ret [] (.bool true) fun w' hm hI => ⟨rfl, bel0 (hI.mono fun _ h => h.1.1.1)⟩
      · rcases beg_cases fs day (timC 1000000 c) with ⟨hb3, -⟩ | ⟨hb3, -⟩
        · obtain ⟨r', e1, -⟩ := beg_once hb3
          rw [hb2] at e1
          cases e1
        · skip
          refine Goes.callLT 7 #[cv 26 0 [] (.slice (some ⟨gr, 0, none⟩) 2 2), .int .i64 day, .slice aF NF cF] day ((([], [(EURd, n)]) : R2), 0) w.heap.size (fun w1 hm hI => by have hB := bel0 hI; have := begin_any (c := (timC n (.mk 24 0 EURd []))) day (hT.below hB) (Nat.lt_of_lt_of_le htl hB.size) (pair_nc (w := w1) (b := gr) (z := (0, 0)) ⟨by omega, by omega, by simp⟩ (hm.get 3) (leaf_nc ⟨by omega, by unfold inM at hin; omega, by simp⟩) (leaf_nc ⟨by omega, by omega, by simp [EURd]⟩)) (hF.at hB) hl; rwa [hb1] at this) (fun w' h => h.1.size) fun a1 c1 b1 d1 => ?_
          refine Goes.run [0] [] trivial ?_
          refine Goes.callLT 7 #[cv op k t (.slice a N cc), .int .i64 day, .slice aF NF cF] day (r0, 150) w.heap.size (fun w1 hm hI => by have hB := bel0 (hI.mono fun _ h => h.1); have := begin_any (c := c) day (hT.below hB) (Nat.lt_of_lt_of_le htl hB.size) (hN.at hB) (hF.at hB) hl; rwa [hb2] at this) (fun w' h => h.1.1.size) fun a2 c2 b2 d2 => ?_
          refine Goes.run1 [2, 0] [] trivial fun gs => ?_
          refine Goes.callLT 7 #[cv 26 0 [] (.slice (some ⟨gs, 0, none⟩) 2 2), .int .i64 day, .slice aF NF cF] day (r0, 150) w.heap.size (fun w1 hm hI => by have hB := bel0 (hI.mono fun _ h => h.1.1); have := begin_any (c := (timC 1000000 c)) day (hT.below hB) (Nat.lt_of_lt_of_le htl hB.size) (pair_nc (w := w1) (b := gs) (z := (0, 0)) ⟨by omega, by omega, by simp⟩ (hm.get 4) (leaf_nc ⟨by omega, by omega, by simp⟩) (hN.at hB)) (hF.at hB) hl; rwa [hb3] at this) (fun w' h => h.1.1.1.size) fun a3 c3 b3 d3 => ?_
          refine Goes.run [] [] trivial ?_
          refine Goes.call0 15 #[.slice aF NF cF] (.bool (rfP fs)) (fun w' _ hI => rfeedsR_any (hF.at (bel0 (hI.mono fun _ h => h.1.1.1))) hl) ?_
          rw [hf]
          refine Goes.upto 72 [0] [(false, false)] ⟨rfl, trivial⟩ ?_
          refine Goes.slot 71 (.bool false) (u := .bool (decide (day < 0))) (congrArg _ h3) ?_
          refine Goes.upto 76 [0] [(false, false)] ⟨rfl, trivial⟩ ?_
          refine Goes.slot 75 (.bool false) (u := .bool (decide (day > 73048))) (congrArg _ h4) ?_
          refine Goes.run [0, 1, 1] [(true, true), (n != 0, true), (false, false)] ⟨rfl, by rw [bne, h0]; rfl, rfl, trivial⟩ ?_
          refine Goes.pure (Q := ∃ gU, b1 = some ⟨gU, 0, none⟩) (fun w' hI => by obtain ⟨g, cap, cur, he, -⟩ := own_open hI.1.1.2.2 (by simp); cases he; exact ⟨g, rfl⟩) fun ⟨gU, hgU⟩ => ?_
          subst hgU
          refine Goes.val (Instr.indexAt 28 (.slice (some ⟨gU, 0, none⟩) 1 d1) (.int .i64 ((0 : Nat) : Int))) (.pointer (some ⟨gU, 0 * 3, none⟩)) (fun w' _ _ => idxTr gU 1 d1 0 (by omega) w') ?_
          refine Goes.val (Instr.loadAt 33 (.pointer (some ⟨gU, 0 * 3, none⟩))) (.agg #[.int .i64 day, strV EURd, .int .i64 n]) (fun w' _ hI => by
            obtain ⟨g, cap, cur, he, hg, -, -, hc⟩ := own_open hI.now.1.1.2.2 (by simp)
            cases he
            exact loadTr (ts := [(EURd, n)]) (i := 0) hg hc rfl) ?_
          refine Goes.upto 107 [] [] trivial ?_
          refine Goes.val (do eqGuard .eql 33 (.tmp 103) (.tmp 106) (.agg #[.int .i64 day, strV EURd, .int .i64 n]) (.agg #[.int .i64 day, strV EURd, .int .i64 n]); binOp .eql 33 (.agg #[.int .i64 day, strV EURd, .int .i64 n]) (.agg #[.int .i64 day, strV EURd, .int .i64 n])) (.bool true) (fun w' _ _ => by have := eql_agg (t := 33) (.tmp 103) (.tmp 106) (by kernel_rfl) (eqTr day EURd n day EURd n w'); simpa using this) ?_
          refine Goes.run [] [] trivial ?_
          refine Goes.run [1, 1, 1, 1, 1, 0] [(false, false), (true, true), (true, true), (true, true), (true, true), (true, true)] ⟨rfl, rfl, rfl, rfl, rfl, rfl, trivial⟩ ?_
          exact Goes.ret [] (.bool true) fun w' hm hI => ⟨rfl, bel0 (hI.mono fun _ h => h.1.1.1)⟩
end Go.Proofs.YthnojedlndblbabGreatDoor
