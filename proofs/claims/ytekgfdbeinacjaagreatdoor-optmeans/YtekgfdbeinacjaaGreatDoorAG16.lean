/- texts put together: NRl NStp NStepsW NFrame NFrame2 -/
import Derived.Test.YtekgfdbeinacjaaGreatDoorAG15
import Derived.Test.YtekgfdbeinacjaaGreatDoorAG12
import Derived.Test.YtekgfdbeinacjaaGreatDoorAG14
namespace Go.Proofs.YtekgfdbeinacjaaGreatDoor
open Go Go.RowKit

theorem term_out {c : Co} {q : Int} (h : q < 0) : termP c q = none := by
  cases ht : termP c q with
  | none => rfl
  | some t => have := (term_in c q t ht).1; omega
theorem opAt_in {c : Co} {q : Int} (h : opAt c q = true) : 0 ≤ q ∧ q < szC c := by
  unfold opAt at h
  cases ht : termP c q with
  | none => rw [ht] at h; cases h
  | some t =>
    obtain ⟨h1, h2, -⟩ := term_in c q t ht
    have := szC_pos t
    omega
theorem rl_good1 {c : Co} {x : Int × Int} {last : Int} (h1 : last < x.1) (h2 : opAt c x.1 = true) (h3 : ¬ x.2 < -1000000000000000) (h4 : ¬ x.2 > 1000000000000000) : (!decide (x.1 ≤ last) && !decide (x.1 ≥ szC c) && opAt c x.1 && numP x.2) = true := by
  obtain ⟨h5, h6⟩ := opAt_in h2
  rw [decide_eq_false (by omega), decide_eq_false (by omega), h2, num_in.2 (by unfold inM; omega)]
  rfl
theorem rl_bad1 {c : Co} {x : Int × Int} {last : Int} (h : x.1 ≤ last ∨ opAt c x.1 = false ∨ x.2 < -1000000000000000 ∨ x.2 > 1000000000000000) : (!decide (x.1 ≤ last) && !decide (x.1 ≥ szC c) && opAt c x.1 && numP x.2) = false := by
  rcases h with h | h | h | h
  · rw [decide_eq_true h]; rfl
  · rw [h]; simp
  · have : numP x.2 = false := by unfold numP; rw [decide_eq_false (by omega)]; rfl
    rw [this, Bool.and_false]
  · have : numP x.2 = false := by unfold numP; rw [Bool.and_eq_false_iff]; exact .inr (decide_eq_false (by omega))
    rw [this, Bool.and_false]
theorem sts_blk {n : Nat} {w : World} {a : Option Addr} {M c : Nat} {l : List (Int × Int)} (hn : n ≤ w.heap.size) (h : Sts n w (.slice a M c) l) (h0 : 0 < l.length) : ∃ b o ob, a = some ⟨b, o, none⟩ ∧ b < n ∧ w.heap[b]? = some ob := by
  obtain ⟨a', c', e, -, hx⟩ := h
  cases e
  obtain ⟨b, o, e, hb, -, -⟩ := hx 0 (l[0]'h0) (by simp)
  obtain ⟨ob, hob⟩ := blk_of (w := w) (b := b) (by omega)
  exact ⟨b, o, ob, e, hb, hob⟩
theorem bel1 {s : St} {b : Nat} {ob : Obj} {w w' : World} {Q : World → Prop} (hob : w.heap[b]? = some ob) (hm : Holds s.mem w') (hI : Stay s.mem.ids w' (fun w2 => Ch (Mem.ids [(b, ob)]) w w2 ∧ Q w2)) (e : s.mem.take 1 = [(b, ob)] := by kernel_rfl) : Below w.heap.size w w' := below_end (holds1 hob) hI.now.1 hm e
set_option maxRecDepth 100000 in
set_option maxHeartbeats 8000000 in
seal rn rnN rnS Goes ans atEnd put0 put putM opened openedY putA0 putA oneSt st0 keep mkSt newSt in
theorem rlives_any {c : Co} {l : List (Int × Int)} {u v : Value} {w : World} (hsz : szC c ≤ 2000) (hN : Nc w.heap.size w u c) (hL : Sts w.heap.size w v l) : Calls Tryz.prog 25 #[u, v] w fun e w' => e = .returned (.bool (rlP c l)) ∧ Below w.heap.size w w' := by
  obtain ⟨op, k, t, aC, NC, cc, rfl⟩ := hN.cells
  have hL0 := hL
  obtain ⟨a, cL, rfl, hcap, hlv⟩ := hL
  obtain ⟨M, hM⟩ : ∃ M, l.length = M := ⟨_, rfl⟩
  rw [hM] at hcap hL0 ⊢
  rcases Nat.eq_zero_or_pos M with h0 | h0
  · have hl := List.eq_nil_of_length_eq_zero (hM.trans h0)
    subst h0 hl
    refine Goes.begin Tryz.func25 [] (fun _ => True) Holds.nil (by simp [Mem.ids]) (fun _ _ => trivial) ?_
    refine Goes.run1 [0, 0] [(false, false)] ⟨rfl, trivial⟩ fun g2 => ?_
    exact Goes.ret [] (.bool true) fun w' hm hI => ⟨rfl, bel0 hI⟩
  obtain ⟨b, o, ob, rfl, hb, hob⟩ := sts_blk (Nat.le_refl _) hL0 (by omega)
  refine Goes.begin Tryz.func25 [(b, ob)] (fun _ => True) (holds1 hob) (by simp [Mem.ids]) (fun _ _ => trivial) ?_
  refine Goes.run1 [] [] trivial fun g2 => ?_
  refine Goes.loop0 (α := Nat) 96 (fun i => [(1, .slice (some ⟨b, o, none⟩) M cL), (2, .pointer (some ⟨g2, 0, none⟩)), (5, .int .i64 (i : Int))]) [(b, ob), (g2, cO op k t (.slice aC NC cc))] (fun i => i ≤ M ∧ rlP c l = rlF c (lstD l i) (l.drop i)) (fun i => M - i) 0 ⟨Nat.zero_le _, rfl⟩ ?_ (by kernel_rfl)
  rintro i J ⟨hi, hst⟩ back
  cases hlt : decide ((i : Int) < (M : Int)) with
  | false =>
    have hd : l.drop i = [] := List.drop_eq_nil_of_le (by have := of_decide_eq_false hlt; omega)
    rw [hd, rlF] at hst
    refine Goes.run [0, 0] [(decide ((i : Int) < (M : Int)), false)] ⟨hlt, trivial⟩ ?_
    exact Goes.ret [] (.bool true) fun w' hm hI => ⟨by rw [hst], bel1 hob hm hI⟩
  | true =>
    have hil : i < M := by have := of_decide_eq_true hlt; omega
    obtain ⟨x, hx⟩ : ∃ x, l[i]? = some x := ⟨l[i]'(by omega), by simp⟩
    have hdrop : l.drop i = x :: l.drop (i + 1) := (List.drop_eq_getElem_cons (by omega)).trans (by rw [List.getElem?_eq_getElem (by omega)] at hx; cases hx; rfl)
    obtain ⟨b', o', e', -, x1, x2⟩ := hlv i x hx
    cases e'
    refine Goes.run [0, 1] [(decide ((i : Int) < (M : Int)), true)] ⟨hlt, trivial⟩ ?_
    refine Goes.open [0, 1] ?_
    refine Goes.run [0, 1, 1, 2] [] trivial ?_
    refine Goes.valA 3 (Instr.indexAt 32 (.slice (some ⟨b, o, none⟩) M cL) (.int .i64 i)) (.pointer (some ⟨b, o + i * 2, none⟩)) (fun w' _ => idxLv b o M cL i (by omega) w') ?_
    refine Goes.run [4] [] trivial ?_
    refine Goes.valA 5 (Instr.loadAt 3 (.pointer (some ⟨b, o + i * 2, none⟩))) (.int .i64 x.1) (fun w' hm => load1 Tryz.isAgg3 (Cel.same x1 hob (hm.get 0))) ?_
    refine Goes.two 6 10 (TookS.callM 6 26 #[cv op k t (.slice aC NC cc), .int .i64 x.1] fun w1 hm1 hn1 hI1 h01 => ?_) (TookS.new1 10 0 [0, 1] (fun w' h => Nat.zero_le _) fun g6 f6 => ?_)
    · have hB1 : Below w.heap.size w w1 := bel1 hob hm1 hI1
      refine (rterm_any c w.heap.size x.1 _ w1 hsz hB1.size (hN.later hB1)).mono fun e w2 hR => ?_
      obtain ⟨o6, k6, s6, a6, n6, c6, he, hv1, hv2, hB2⟩ := hR.form
      refine ⟨_, fun w' => Ch (Mem.ids [(b, ob)]) w w' ∧ True, _, he, h01.bel hB2, hm1.bel hB2, hn1, hI1.bel hB2, ?_⟩
      refine Goes.run [7, 8, 9] [] trivial ?_
      refine Goes.lone1 10 (TookS.new1 10 0 [0, 1] (fun w' h => Nat.zero_le _) fun g6 f6 => ?_)
      refine Goes.oneA 11 2 [0, 1] ?_
      refine Goes.run [12] [] trivial ?_
      refine Goes.fork (o6 == 26) 33 96 [(1, .slice (some ⟨b, o, none⟩) M cL), (2, .pointer (some ⟨g2, 0, none⟩)), (5, .int .i64 (i : Int)), (6, .pointer (some ⟨g6, 0, none⟩)), (7, .bool (termP c x.1).isSome), (32, .bool ((o6 == 26) || o6 == 28))] [(1, .slice (some ⟨b, o, none⟩) M cL), (2, .pointer (some ⟨g2, 0, none⟩)), (5, .int .i64 (i : Int)), (6, .pointer (some ⟨g6, 0, none⟩)), (7, .bool (termP c x.1).isSome), (32, .bool true)] [(1, .slice (some ⟨b, o, none⟩) M cL), (2, .pointer (some ⟨g2, 0, none⟩)), (5, .int .i64 (i : Int)), (6, .pointer (some ⟨g6, 0, none⟩)), (7, .bool (termP c x.1).isSome), (32, .bool (o6 == 28))] [2, 1] [2, 0, 2] [((o6 == 26), true)] [((o6 == 26), false)] (fun h => ⟨by simp only [h, Bool.true_or], h, trivial⟩) (fun h => ⟨by simp only [h, Bool.false_or], h, trivial⟩) fun J1 => ?_
      refine Goes.fork ((o6 == 26) || o6 == 28) 38 96 [(1, .slice (some ⟨b, o, none⟩) M cL), (2, .pointer (some ⟨g2, 0, none⟩)), (5, .int .i64 (i : Int)), (6, .pointer (some ⟨g6, 0, none⟩)), (7, .bool (termP c x.1).isSome), (37, .bool (((o6 == 26) || o6 == 28) || o6 == 29))] [(1, .slice (some ⟨b, o, none⟩) M cL), (2, .pointer (some ⟨g2, 0, none⟩)), (5, .int .i64 (i : Int)), (6, .pointer (some ⟨g6, 0, none⟩)), (7, .bool (termP c x.1).isSome), (37, .bool true)] [(1, .slice (some ⟨b, o, none⟩) M cL), (2, .pointer (some ⟨g2, 0, none⟩)), (5, .int .i64 (i : Int)), (6, .pointer (some ⟨g6, 0, none⟩)), (7, .bool (termP c x.1).isSome), (37, .bool (o6 == 29))] [1] [0, 2] [(((o6 == 26) || o6 == 28), true)] [(((o6 == 26) || o6 == 28), false)] (fun h => ⟨by simp only [h, Bool.true_or], h, trivial⟩) (fun h => ⟨by simp only [h, Bool.false_or], h, trivial⟩) fun J2 => ?_
      refine Goes.fork (((o6 == 26) || o6 == 28) || o6 == 29) 43 96 [(1, .slice (some ⟨b, o, none⟩) M cL), (2, .pointer (some ⟨g2, 0, none⟩)), (5, .int .i64 (i : Int)), (6, .pointer (some ⟨g6, 0, none⟩)), (7, .bool (termP c x.1).isSome), (42, .bool ((((o6 == 26) || o6 == 28) || o6 == 29) || o6 == 30))] [(1, .slice (some ⟨b, o, none⟩) M cL), (2, .pointer (some ⟨g2, 0, none⟩)), (5, .int .i64 (i : Int)), (6, .pointer (some ⟨g6, 0, none⟩)), (7, .bool (termP c x.1).isSome), (42, .bool true)] [(1, .slice (some ⟨b, o, none⟩) M cL), (2, .pointer (some ⟨g2, 0, none⟩)), (5, .int .i64 (i : Int)), (6, .pointer (some ⟨g6, 0, none⟩)), (7, .bool (termP c x.1).isSome), (42, .bool (o6 == 30))] [1] [0, 2] [((((o6 == 26) || o6 == 28) || o6 == 29), true)] [((((o6 == 26) || o6 == 28) || o6 == 29), false)] (fun h => ⟨by simp only [h, Bool.true_or], h, trivial⟩) (fun h => ⟨by simp only [h, Bool.false_or], h, trivial⟩) fun J3 => ?_
      refine Goes.fork ((((o6 == 26) || o6 == 28) || o6 == 29) || o6 == 30) 8 96 [(1, .slice (some ⟨b, o, none⟩) M cL), (2, .pointer (some ⟨g2, 0, none⟩)), (5, .int .i64 (i : Int)), (6, .pointer (some ⟨g6, 0, none⟩)), (7, .bool (termP c x.1).isSome), (47, .bool (((((o6 == 26) || o6 == 28) || o6 == 29) || o6 == 30) || o6 == 31))] [(1, .slice (some ⟨b, o, none⟩) M cL), (2, .pointer (some ⟨g2, 0, none⟩)), (5, .int .i64 (i : Int)), (6, .pointer (some ⟨g6, 0, none⟩)), (7, .bool (termP c x.1).isSome), (47, .bool true)] [(1, .slice (some ⟨b, o, none⟩) M cL), (2, .pointer (some ⟨g2, 0, none⟩)), (5, .int .i64 (i : Int)), (6, .pointer (some ⟨g6, 0, none⟩)), (7, .bool (termP c x.1).isSome), (47, .bool (o6 == 31))] [1] [0, 2] [(((((o6 == 26) || o6 == 28) || o6 == 29) || o6 == 30), true)] [(((((o6 == 26) || o6 == 28) || o6 == 29) || o6 == 30), false)] (fun h => ⟨by simp only [h, Bool.true_or], h, trivial⟩) (fun h => ⟨by simp only [h, Bool.false_or], h, trivial⟩) fun J4 => ?_
      refine Goes.run [] [] trivial ?_
      obtain ⟨W, hW⟩ : ∃ W, (((((o6 == 26) || o6 == 28) || o6 == 29) || o6 == 30) || o6 == 31) = W := ⟨_, rfl⟩
      have hop : opAt c x.1 = ((termP c x.1).isSome && W) := by
        unfold opAt
        cases hT : termP c x.1 with
        | none => rfl
        | some t6 =>
          cases t6 with
          | mk o7 k7 s7 kids7 =>
            obtain ⟨a7, c7, e7, -⟩ := (hv1 _ hT).open
            unfold cv at e7
            simp only [Value.agg.injEq, Array.mk.injEq, List.cons.injEq, Value.int.injEq, true_and] at e7
            obtain ⟨rfl, -⟩ := e7
            rw [← hW]
            simp only [Option.isSome_some, Bool.true_and]
            rfl
      refine Goes.slot 8 (.bool W) (u := .bool (((((o6 == 26) || o6 == 28) || o6 == 29) || o6 == 30) || o6 == 31)) (congrArg _ hW) ?_
      cases hk : (termP c x.1).isSome with
      | false =>
        have hop : opAt c x.1 = false := by rw [hop, hk]; rfl
        cases i with
        | zero =>
          refine Goes.open [0] ?_
          cases hb1 : decide (x.1 < 0) with
          | true =>
            refine Goes.run [0, 1] [] trivial ?_
            refine Goes.valA 2 (Instr.indexAt 32 (.slice (some ⟨b, o, none⟩) M cL) (.int .i64 ((0 : Nat) : Int))) (.pointer (some ⟨b, o + 0 * 2, none⟩)) (fun w' _ => idxLv b o M cL 0 (by omega) w') ?_
            refine Goes.run [3] [] trivial ?_
            refine Goes.valA 4 (Instr.loadAt 3 (.pointer (some ⟨b, o + 0 * 2, none⟩))) (.int .i64 x.1) (fun w' hm => load1 Tryz.isAgg3 (Cel.same x1 hob (hm.get 0))) ?_
            refine Goes.run [5] [] trivial ?_
            refine Goes.slot 53 (.bool true) (u := .bool (decide (x.1 < 0))) (congrArg _ (hb1)) ?_
            refine Goes.run [6, 7, 8, 9, 10, 11, 12, 13, 14, 15, 16, 17, 18, 19, 20, 21, 22, 23, 24, 25, 26, 27, 28, 29, 30, 31, 32, 33, 34, 35, 36, 37, 38, 39, 40, 41, 42, 43, 44, 45, 46, 47, 1] [(true, true)] ⟨rfl, trivial⟩ ?_
            exact Goes.ret [] (.bool false) fun w' hm hI => ⟨by rw [hst, hdrop, rlF, rl_bad1 (.inl (by show x.1 ≤ -1; have := of_decide_eq_true hb1; omega))]; rfl, bel1 hob hm hI⟩
          | false =>
            refine Goes.run [0, 1] [] trivial ?_
            refine Goes.valA 2 (Instr.indexAt 32 (.slice (some ⟨b, o, none⟩) M cL) (.int .i64 ((0 : Nat) : Int))) (.pointer (some ⟨b, o + 0 * 2, none⟩)) (fun w' _ => idxLv b o M cL 0 (by omega) w') ?_
            refine Goes.run [3] [] trivial ?_
            refine Goes.valA 4 (Instr.loadAt 3 (.pointer (some ⟨b, o + 0 * 2, none⟩))) (.int .i64 x.1) (fun w' hm => load1 Tryz.isAgg3 (Cel.same x1 hob (hm.get 0))) ?_
            refine Goes.run [5] [] trivial ?_
            refine Goes.slot 53 (.bool false) (u := .bool (decide (x.1 < 0))) (congrArg _ (hb1)) ?_
            refine Goes.run [6, 7, 8] [] trivial ?_
            refine Goes.slot 56 (.bool false) (u := .bool (decide (((0 : Nat) : Int) > 0))) (congrArg _ (rfl)) ?_
            refine Goes.run [9, 10, 11, 12, 13, 14, 15, 16, 17, 18, 19, 20, 21, 22, 23, 24, 25, 26, 27, 28, 29, 30, 31, 32, 33, 34, 35, 36, 37, 38, 39, 40, 41, 42, 43, 44, 45, 46, 47, 1] [(true, true)] ⟨rfl, trivial⟩ ?_
            exact Goes.ret [] (.bool false) fun w' hm hI => ⟨by rw [hst, hdrop, rlF, rl_bad1 (.inr (.inl hop))]; rfl, bel1 hob hm hI⟩
        | succ j =>
          obtain ⟨y, hy⟩ : ∃ y, l[j]? = some y := ⟨l[j]'(by omega), by simp⟩
          obtain ⟨b'', o'', e'', -, y1, -⟩ := hlv j y hy
          cases e''
          have hlast : lstD l (j + 1) = y.1 := by simp [lstD, hy]
          refine Goes.open [0] ?_
          cases hb1 : decide (x.1 < 0) with
          | true =>
            refine Goes.run [0, 1] [] trivial ?_
            refine Goes.valA 2 (Instr.indexAt 32 (.slice (some ⟨b, o, none⟩) M cL) (.int .i64 ((j + 1 : Nat) : Int))) (.pointer (some ⟨b, o + (j + 1) * 2, none⟩)) (fun w' _ => idxLv b o M cL (j + 1) (by omega) w') ?_
            refine Goes.run [3] [] trivial ?_
            refine Goes.valA 4 (Instr.loadAt 3 (.pointer (some ⟨b, o + (j + 1) * 2, none⟩))) (.int .i64 x.1) (fun w' hm => load1 Tryz.isAgg3 (Cel.same x1 hob (hm.get 0))) ?_
            refine Goes.run [5] [] trivial ?_
            refine Goes.slot 53 (.bool true) (u := .bool (decide (x.1 < 0))) (congrArg _ (hb1)) ?_
            refine Goes.run [6, 7, 8, 9, 10, 11, 12, 13, 14, 15, 16, 17, 18, 19, 20, 21, 22, 23, 24, 25, 26, 27, 28, 29, 30, 31, 32, 33, 34, 35, 36, 37, 38, 39, 40, 41, 42, 43, 44, 45, 46, 47, 1] [(true, true)] ⟨rfl, trivial⟩ ?_
            exact Goes.ret [] (.bool false) fun w' hm hI => ⟨by rw [hst, hdrop, rlF, rl_bad1 (.inr (.inl (by unfold opAt; rw [term_out (of_decide_eq_true hb1)])))]; rfl, bel1 hob hm hI⟩
          | false =>
            cases hb3 : decide (y.1 ≥ x.1) with
            | true =>
              refine Goes.run [0, 1] [] trivial ?_
              refine Goes.valA 2 (Instr.indexAt 32 (.slice (some ⟨b, o, none⟩) M cL) (.int .i64 ((j + 1 : Nat) : Int))) (.pointer (some ⟨b, o + (j + 1) * 2, none⟩)) (fun w' _ => idxLv b o M cL (j + 1) (by omega) w') ?_
              refine Goes.run [3] [] trivial ?_
              refine Goes.valA 4 (Instr.loadAt 3 (.pointer (some ⟨b, o + (j + 1) * 2, none⟩))) (.int .i64 x.1) (fun w' hm => load1 Tryz.isAgg3 (Cel.same x1 hob (hm.get 0))) ?_
              refine Goes.run [5] [] trivial ?_
              refine Goes.slot 53 (.bool false) (u := .bool (decide (x.1 < 0))) (congrArg _ (hb1)) ?_
              refine Goes.run [6, 7, 8] [] trivial ?_
              refine Goes.slot 56 (.bool true) (u := .bool (decide (((j + 1 : Nat) : Int) > 0))) (congrArg _ (decide_eq_true (by omega))) ?_
              refine Goes.run [9, 10, 11, 12] [] trivial ?_
              refine Goes.slot 60 (.int .i64 (j : Int)) (u := .int .i64 (IntKind.i64.wrap (((j + 1 : Nat) : Int) - 1))) (congrArg _ (by rw [IntWalk.i64_in _ ⟨by omega, by omega⟩]; omega)) ?_
              refine Goes.valA 13 (Instr.indexAt 32 (.slice (some ⟨b, o, none⟩) M cL) (.int .i64 (j : Int))) (.pointer (some ⟨b, o + j * 2, none⟩)) (fun w' _ => idxLv b o M cL j (by omega) w') ?_
              refine Goes.run [14] [] trivial ?_
              refine Goes.valA 15 (Instr.loadAt 3 (.pointer (some ⟨b, o + j * 2, none⟩))) (.int .i64 y.1) (fun w' hm => load1 Tryz.isAgg3 (Cel.same y1 hob (hm.get 0))) ?_
              refine Goes.run [16, 17] [] trivial ?_
              refine Goes.valA 18 (Instr.indexAt 32 (.slice (some ⟨b, o, none⟩) M cL) (.int .i64 ((j + 1 : Nat) : Int))) (.pointer (some ⟨b, o + (j + 1) * 2, none⟩)) (fun w' _ => idxLv b o M cL (j + 1) (by omega) w') ?_
              refine Goes.run [19] [] trivial ?_
              refine Goes.valA 20 (Instr.loadAt 3 (.pointer (some ⟨b, o + (j + 1) * 2, none⟩))) (.int .i64 x.1) (fun w' hm => load1 Tryz.isAgg3 (Cel.same x1 hob (hm.get 0))) ?_
              refine Goes.run [21] [] trivial ?_
              refine Goes.slot 69 (.bool true) (u := .bool (decide (y.1 ≥ x.1))) (congrArg _ (hb3)) ?_
              refine Goes.run [22, 23, 24, 25, 26, 27, 28, 29, 30, 31, 32, 33, 34, 35, 36, 37, 38, 39, 40, 41, 42, 43, 44, 45, 46, 47, 1] [(true, true)] ⟨rfl, trivial⟩ ?_
              exact Goes.ret [] (.bool false) fun w' hm hI => ⟨by rw [hst, hdrop, rlF, rl_bad1 (.inl (by rw [hlast]; have := of_decide_eq_true hb3; omega))]; rfl, bel1 hob hm hI⟩
            | false =>
              refine Goes.run [0, 1] [] trivial ?_
              refine Goes.valA 2 (Instr.indexAt 32 (.slice (some ⟨b, o, none⟩) M cL) (.int .i64 ((j + 1 : Nat) : Int))) (.pointer (some ⟨b, o + (j + 1) * 2, none⟩)) (fun w' _ => idxLv b o M cL (j + 1) (by omega) w') ?_
              refine Goes.run [3] [] trivial ?_
              refine Goes.valA 4 (Instr.loadAt 3 (.pointer (some ⟨b, o + (j + 1) * 2, none⟩))) (.int .i64 x.1) (fun w' hm => load1 Tryz.isAgg3 (Cel.same x1 hob (hm.get 0))) ?_
              refine Goes.run [5] [] trivial ?_
              refine Goes.slot 53 (.bool false) (u := .bool (decide (x.1 < 0))) (congrArg _ (hb1)) ?_
              refine Goes.run [6, 7, 8] [] trivial ?_
              refine Goes.slot 56 (.bool true) (u := .bool (decide (((j + 1 : Nat) : Int) > 0))) (congrArg _ (decide_eq_true (by omega))) ?_
              refine Goes.run [9, 10, 11, 12] [] trivial ?_
              refine Goes.slot 60 (.int .i64 (j : Int)) (u := .int .i64 (IntKind.i64.wrap (((j + 1 : Nat) : Int) - 1))) (congrArg _ (by rw [IntWalk.i64_in _ ⟨by omega, by omega⟩]; omega)) ?_
              refine Goes.valA 13 (Instr.indexAt 32 (.slice (some ⟨b, o, none⟩) M cL) (.int .i64 (j : Int))) (.pointer (some ⟨b, o + j * 2, none⟩)) (fun w' _ => idxLv b o M cL j (by omega) w') ?_
              refine Goes.run [14] [] trivial ?_
              refine Goes.valA 15 (Instr.loadAt 3 (.pointer (some ⟨b, o + j * 2, none⟩))) (.int .i64 y.1) (fun w' hm => load1 Tryz.isAgg3 (Cel.same y1 hob (hm.get 0))) ?_
              refine Goes.run [16, 17] [] trivial ?_
              refine Goes.valA 18 (Instr.indexAt 32 (.slice (some ⟨b, o, none⟩) M cL) (.int .i64 ((j + 1 : Nat) : Int))) (.pointer (some ⟨b, o + (j + 1) * 2, none⟩)) (fun w' _ => idxLv b o M cL (j + 1) (by omega) w') ?_
              refine Goes.run [19] [] trivial ?_
              refine Goes.valA 20 (Instr.loadAt 3 (.pointer (some ⟨b, o + (j + 1) * 2, none⟩))) (.int .i64 x.1) (fun w' hm => load1 Tryz.isAgg3 (Cel.same x1 hob (hm.get 0))) ?_
              refine Goes.run [21] [] trivial ?_
              refine Goes.slot 69 (.bool false) (u := .bool (decide (y.1 ≥ x.1))) (congrArg _ (hb3)) ?_
              refine Goes.run [22, 23, 24, 25, 26, 27, 28, 29, 30, 31, 32, 33, 34, 35, 36, 37, 38, 39, 40, 41, 42, 43, 44, 45, 46, 47, 1] [(true, true)] ⟨rfl, trivial⟩ ?_
              exact Goes.ret [] (.bool false) fun w' hm hI => ⟨by rw [hst, hdrop, rlF, rl_bad1 (.inr (.inl hop))]; rfl, bel1 hob hm hI⟩
      | true =>
        cases W with
        | false =>
          have hop : opAt c x.1 = false := by rw [hop, hk]; rfl
          cases i with
          | zero =>
            refine Goes.open [0] ?_
            cases hb1 : decide (x.1 < 0) with
            | true =>
              refine Goes.run [0, 1] [] trivial ?_
              refine Goes.valA 2 (Instr.indexAt 32 (.slice (some ⟨b, o, none⟩) M cL) (.int .i64 ((0 : Nat) : Int))) (.pointer (some ⟨b, o + 0 * 2, none⟩)) (fun w' _ => idxLv b o M cL 0 (by omega) w') ?_
              refine Goes.run [3] [] trivial ?_
              refine Goes.valA 4 (Instr.loadAt 3 (.pointer (some ⟨b, o + 0 * 2, none⟩))) (.int .i64 x.1) (fun w' hm => load1 Tryz.isAgg3 (Cel.same x1 hob (hm.get 0))) ?_
              refine Goes.run [5] [] trivial ?_
              refine Goes.slot 53 (.bool true) (u := .bool (decide (x.1 < 0))) (congrArg _ (hb1)) ?_
              refine Goes.run [6, 7, 8, 9, 10, 11, 12, 13, 14, 15, 16, 17, 18, 19, 20, 21, 22, 23, 24, 25, 26, 27, 28, 29, 30, 31, 32, 33, 34, 35, 36, 37, 38, 39, 40, 41, 42, 43, 44, 45, 46, 47, 1] [(true, true)] ⟨rfl, trivial⟩ ?_
              exact Goes.ret [] (.bool false) fun w' hm hI => ⟨by rw [hst, hdrop, rlF, rl_bad1 (.inl (by show x.1 ≤ -1; have := of_decide_eq_true hb1; omega))]; rfl, bel1 hob hm hI⟩
            | false =>
              refine Goes.run [0, 1] [] trivial ?_
              refine Goes.valA 2 (Instr.indexAt 32 (.slice (some ⟨b, o, none⟩) M cL) (.int .i64 ((0 : Nat) : Int))) (.pointer (some ⟨b, o + 0 * 2, none⟩)) (fun w' _ => idxLv b o M cL 0 (by omega) w') ?_
              refine Goes.run [3] [] trivial ?_
              refine Goes.valA 4 (Instr.loadAt 3 (.pointer (some ⟨b, o + 0 * 2, none⟩))) (.int .i64 x.1) (fun w' hm => load1 Tryz.isAgg3 (Cel.same x1 hob (hm.get 0))) ?_
              refine Goes.run [5] [] trivial ?_
              refine Goes.slot 53 (.bool false) (u := .bool (decide (x.1 < 0))) (congrArg _ (hb1)) ?_
              refine Goes.run [6, 7, 8] [] trivial ?_
              refine Goes.slot 56 (.bool false) (u := .bool (decide (((0 : Nat) : Int) > 0))) (congrArg _ (rfl)) ?_
              refine Goes.run [9, 10, 11, 12, 13, 14, 15, 16, 17, 18, 19, 20, 21, 22, 23, 24, 25, 26, 27, 28, 29, 30, 31, 32, 33, 34, 35, 36, 37, 38, 39, 40, 41, 42, 43, 44, 45, 46, 47, 1] [(true, true)] ⟨rfl, trivial⟩ ?_
              exact Goes.ret [] (.bool false) fun w' hm hI => ⟨by rw [hst, hdrop, rlF, rl_bad1 (.inr (.inl hop))]; rfl, bel1 hob hm hI⟩
          | succ j =>
            obtain ⟨y, hy⟩ : ∃ y, l[j]? = some y := ⟨l[j]'(by omega), by simp⟩
            obtain ⟨b'', o'', e'', -, y1, -⟩ := hlv j y hy
            cases e''
            have hlast : lstD l (j + 1) = y.1 := by simp [lstD, hy]
            refine Goes.open [0] ?_
            cases hb1 : decide (x.1 < 0) with
            | true =>
              refine Goes.run [0, 1] [] trivial ?_
              refine Goes.valA 2 (Instr.indexAt 32 (.slice (some ⟨b, o, none⟩) M cL) (.int .i64 ((j + 1 : Nat) : Int))) (.pointer (some ⟨b, o + (j + 1) * 2, none⟩)) (fun w' _ => idxLv b o M cL (j + 1) (by omega) w') ?_
              refine Goes.run [3] [] trivial ?_
              refine Goes.valA 4 (Instr.loadAt 3 (.pointer (some ⟨b, o + (j + 1) * 2, none⟩))) (.int .i64 x.1) (fun w' hm => load1 Tryz.isAgg3 (Cel.same x1 hob (hm.get 0))) ?_
              refine Goes.run [5] [] trivial ?_
              refine Goes.slot 53 (.bool true) (u := .bool (decide (x.1 < 0))) (congrArg _ (hb1)) ?_
              refine Goes.run [6, 7, 8, 9, 10, 11, 12, 13, 14, 15, 16, 17, 18, 19, 20, 21, 22, 23, 24, 25, 26, 27, 28, 29, 30, 31, 32, 33, 34, 35, 36, 37, 38, 39, 40, 41, 42, 43, 44, 45, 46, 47, 1] [(true, true)] ⟨rfl, trivial⟩ ?_
              exact Goes.ret [] (.bool false) fun w' hm hI => ⟨by rw [hst, hdrop, rlF, rl_bad1 (.inr (.inl (by unfold opAt; rw [term_out (of_decide_eq_true hb1)])))]; rfl, bel1 hob hm hI⟩
            | false =>
              cases hb3 : decide (y.1 ≥ x.1) with
              | true =>
                refine Goes.run [0, 1] [] trivial ?_
                refine Goes.valA 2 (Instr.indexAt 32 (.slice (some ⟨b, o, none⟩) M cL) (.int .i64 ((j + 1 : Nat) : Int))) (.pointer (some ⟨b, o + (j + 1) * 2, none⟩)) (fun w' _ => idxLv b o M cL (j + 1) (by omega) w') ?_
                refine Goes.run [3] [] trivial ?_
                refine Goes.valA 4 (Instr.loadAt 3 (.pointer (some ⟨b, o + (j + 1) * 2, none⟩))) (.int .i64 x.1) (fun w' hm => load1 Tryz.isAgg3 (Cel.same x1 hob (hm.get 0))) ?_
                refine Goes.run [5] [] trivial ?_
                refine Goes.slot 53 (.bool false) (u := .bool (decide (x.1 < 0))) (congrArg _ (hb1)) ?_
                refine Goes.run [6, 7, 8] [] trivial ?_
                refine Goes.slot 56 (.bool true) (u := .bool (decide (((j + 1 : Nat) : Int) > 0))) (congrArg _ (decide_eq_true (by omega))) ?_
                refine Goes.run [9, 10, 11, 12] [] trivial ?_
                refine Goes.slot 60 (.int .i64 (j : Int)) (u := .int .i64 (IntKind.i64.wrap (((j + 1 : Nat) : Int) - 1))) (congrArg _ (by rw [IntWalk.i64_in _ ⟨by omega, by omega⟩]; omega)) ?_
                refine Goes.valA 13 (Instr.indexAt 32 (.slice (some ⟨b, o, none⟩) M cL) (.int .i64 (j : Int))) (.pointer (some ⟨b, o + j * 2, none⟩)) (fun w' _ => idxLv b o M cL j (by omega) w') ?_
                refine Goes.run [14] [] trivial ?_
                refine Goes.valA 15 (Instr.loadAt 3 (.pointer (some ⟨b, o + j * 2, none⟩))) (.int .i64 y.1) (fun w' hm => load1 Tryz.isAgg3 (Cel.same y1 hob (hm.get 0))) ?_
                refine Goes.run [16, 17] [] trivial ?_
                refine Goes.valA 18 (Instr.indexAt 32 (.slice (some ⟨b, o, none⟩) M cL) (.int .i64 ((j + 1 : Nat) : Int))) (.pointer (some ⟨b, o + (j + 1) * 2, none⟩)) (fun w' _ => idxLv b o M cL (j + 1) (by omega) w') ?_
                refine Goes.run [19] [] trivial ?_
                refine Goes.valA 20 (Instr.loadAt 3 (.pointer (some ⟨b, o + (j + 1) * 2, none⟩))) (.int .i64 x.1) (fun w' hm => load1 Tryz.isAgg3 (Cel.same x1 hob (hm.get 0))) ?_
                refine Goes.run [21] [] trivial ?_
                refine Goes.slot 69 (.bool true) (u := .bool (decide (y.1 ≥ x.1))) (congrArg _ (hb3)) ?_
                refine Goes.run [22, 23, 24, 25, 26, 27, 28, 29, 30, 31, 32, 33, 34, 35, 36, 37, 38, 39, 40, 41, 42, 43, 44, 45, 46, 47, 1] [(true, true)] ⟨rfl, trivial⟩ ?_
                exact Goes.ret [] (.bool false) fun w' hm hI => ⟨by rw [hst, hdrop, rlF, rl_bad1 (.inl (by rw [hlast]; have := of_decide_eq_true hb3; omega))]; rfl, bel1 hob hm hI⟩
              | false =>
                refine Goes.run [0, 1] [] trivial ?_
                refine Goes.valA 2 (Instr.indexAt 32 (.slice (some ⟨b, o, none⟩) M cL) (.int .i64 ((j + 1 : Nat) : Int))) (.pointer (some ⟨b, o + (j + 1) * 2, none⟩)) (fun w' _ => idxLv b o M cL (j + 1) (by omega) w') ?_
                refine Goes.run [3] [] trivial ?_
                refine Goes.valA 4 (Instr.loadAt 3 (.pointer (some ⟨b, o + (j + 1) * 2, none⟩))) (.int .i64 x.1) (fun w' hm => load1 Tryz.isAgg3 (Cel.same x1 hob (hm.get 0))) ?_
                refine Goes.run [5] [] trivial ?_
                refine Goes.slot 53 (.bool false) (u := .bool (decide (x.1 < 0))) (congrArg _ (hb1)) ?_
                refine Goes.run [6, 7, 8] [] trivial ?_
                refine Goes.slot 56 (.bool true) (u := .bool (decide (((j + 1 : Nat) : Int) > 0))) (congrArg _ (decide_eq_true (by omega))) ?_
                refine Goes.run [9, 10, 11, 12] [] trivial ?_
                refine Goes.slot 60 (.int .i64 (j : Int)) (u := .int .i64 (IntKind.i64.wrap (((j + 1 : Nat) : Int) - 1))) (congrArg _ (by rw [IntWalk.i64_in _ ⟨by omega, by omega⟩]; omega)) ?_
                refine Goes.valA 13 (Instr.indexAt 32 (.slice (some ⟨b, o, none⟩) M cL) (.int .i64 (j : Int))) (.pointer (some ⟨b, o + j * 2, none⟩)) (fun w' _ => idxLv b o M cL j (by omega) w') ?_
                refine Goes.run [14] [] trivial ?_
                refine Goes.valA 15 (Instr.loadAt 3 (.pointer (some ⟨b, o + j * 2, none⟩))) (.int .i64 y.1) (fun w' hm => load1 Tryz.isAgg3 (Cel.same y1 hob (hm.get 0))) ?_
                refine Goes.run [16, 17] [] trivial ?_
                refine Goes.valA 18 (Instr.indexAt 32 (.slice (some ⟨b, o, none⟩) M cL) (.int .i64 ((j + 1 : Nat) : Int))) (.pointer (some ⟨b, o + (j + 1) * 2, none⟩)) (fun w' _ => idxLv b o M cL (j + 1) (by omega) w') ?_
                refine Goes.run [19] [] trivial ?_
                refine Goes.valA 20 (Instr.loadAt 3 (.pointer (some ⟨b, o + (j + 1) * 2, none⟩))) (.int .i64 x.1) (fun w' hm => load1 Tryz.isAgg3 (Cel.same x1 hob (hm.get 0))) ?_
                refine Goes.run [21] [] trivial ?_
                refine Goes.slot 69 (.bool false) (u := .bool (decide (y.1 ≥ x.1))) (congrArg _ (hb3)) ?_
                refine Goes.run [22, 23, 24, 25, 26, 27, 28, 29, 30, 31, 32, 33, 34, 35, 36, 37, 38, 39, 40, 41, 42, 43, 44, 45, 46, 47, 1] [(true, true)] ⟨rfl, trivial⟩ ?_
                exact Goes.ret [] (.bool false) fun w' hm hI => ⟨by rw [hst, hdrop, rlF, rl_bad1 (.inr (.inl hop))]; rfl, bel1 hob hm hI⟩
        | true =>
          have hop : opAt c x.1 = true := by rw [hop, hk]; rfl
          cases i with
          | zero =>
            refine Goes.open [0] ?_
            cases hb1 : decide (x.1 < 0) with
            | true =>
              refine Goes.run [0, 1] [] trivial ?_
              refine Goes.valA 2 (Instr.indexAt 32 (.slice (some ⟨b, o, none⟩) M cL) (.int .i64 ((0 : Nat) : Int))) (.pointer (some ⟨b, o + 0 * 2, none⟩)) (fun w' _ => idxLv b o M cL 0 (by omega) w') ?_
              refine Goes.run [3] [] trivial ?_
              refine Goes.valA 4 (Instr.loadAt 3 (.pointer (some ⟨b, o + 0 * 2, none⟩))) (.int .i64 x.1) (fun w' hm => load1 Tryz.isAgg3 (Cel.same x1 hob (hm.get 0))) ?_
              refine Goes.run [5] [] trivial ?_
              refine Goes.slot 53 (.bool true) (u := .bool (decide (x.1 < 0))) (congrArg _ (hb1)) ?_
              refine Goes.run [6, 7, 8, 9, 10, 11, 12, 13, 14, 15, 16, 17, 18, 19, 20, 21, 22, 23, 24, 25, 26, 27, 28, 29, 30, 31, 32, 33, 34, 35, 36, 37, 38, 39, 40, 41, 42, 43, 44, 45, 46, 47, 1] [(true, true)] ⟨rfl, trivial⟩ ?_
              exact Goes.ret [] (.bool false) fun w' hm hI => ⟨by rw [hst, hdrop, rlF, rl_bad1 (.inl (by show x.1 ≤ -1; have := of_decide_eq_true hb1; omega))]; rfl, bel1 hob hm hI⟩
            | false =>
              cases hb4 : decide (x.2 < -1000000000000000) with
              | true =>
                refine Goes.run [0, 1] [] trivial ?_
                refine Goes.valA 2 (Instr.indexAt 32 (.slice (some ⟨b, o, none⟩) M cL) (.int .i64 ((0 : Nat) : Int))) (.pointer (some ⟨b, o + 0 * 2, none⟩)) (fun w' _ => idxLv b o M cL 0 (by omega) w') ?_
                refine Goes.run [3] [] trivial ?_
                refine Goes.valA 4 (Instr.loadAt 3 (.pointer (some ⟨b, o + 0 * 2, none⟩))) (.int .i64 x.1) (fun w' hm => load1 Tryz.isAgg3 (Cel.same x1 hob (hm.get 0))) ?_
                refine Goes.run [5] [] trivial ?_
                refine Goes.slot 53 (.bool false) (u := .bool (decide (x.1 < 0))) (congrArg _ (hb1)) ?_
                refine Goes.run [6, 7, 8] [] trivial ?_
                refine Goes.slot 56 (.bool false) (u := .bool (decide (((0 : Nat) : Int) > 0))) (congrArg _ (rfl)) ?_
                refine Goes.run [9, 10, 11, 12, 13, 14, 15, 16, 17, 18, 19, 20, 21, 22, 23, 24, 25, 26, 27, 28, 29, 30, 31, 32, 33, 34] [] trivial ?_
                refine Goes.valA 35 (Instr.indexAt 32 (.slice (some ⟨b, o, none⟩) M cL) (.int .i64 ((0 : Nat) : Int))) (.pointer (some ⟨b, o + 0 * 2, none⟩)) (fun w' _ => idxLv b o M cL 0 (by omega) w') ?_
                refine Goes.run [36] [] trivial ?_
                refine Goes.valA 37 (Instr.loadAt 2 (.pointer (some ⟨b, o + 0 * 2 + 1, none⟩))) (.int .i64 x.2) (fun w' hm => load1 Tryz.isAgg2 (Cel.same x2 hob (hm.get 0))) ?_
                refine Goes.run [38] [] trivial ?_
                refine Goes.slot 86 (.bool true) (u := .bool (decide (x.2 < -1000000000000000))) (congrArg _ (hb4)) ?_
                refine Goes.run [39, 40, 41, 42, 43, 44, 45, 46, 47, 1] [(true, true)] ⟨rfl, trivial⟩ ?_
                exact Goes.ret [] (.bool false) fun w' hm hI => ⟨by rw [hst, hdrop, rlF, rl_bad1 (.inr (.inr (.inl (of_decide_eq_true hb4))))]; rfl, bel1 hob hm hI⟩
              | false =>
                cases hb5 : decide (x.2 > 1000000000000000) with
                | true =>
                  refine Goes.run [0, 1] [] trivial ?_
                  refine Goes.valA 2 (Instr.indexAt 32 (.slice (some ⟨b, o, none⟩) M cL) (.int .i64 ((0 : Nat) : Int))) (.pointer (some ⟨b, o + 0 * 2, none⟩)) (fun w' _ => idxLv b o M cL 0 (by omega) w') ?_
                  refine Goes.run [3] [] trivial ?_
                  refine Goes.valA 4 (Instr.loadAt 3 (.pointer (some ⟨b, o + 0 * 2, none⟩))) (.int .i64 x.1) (fun w' hm => load1 Tryz.isAgg3 (Cel.same x1 hob (hm.get 0))) ?_
                  refine Goes.run [5] [] trivial ?_
                  refine Goes.slot 53 (.bool false) (u := .bool (decide (x.1 < 0))) (congrArg _ (hb1)) ?_
                  refine Goes.run [6, 7, 8] [] trivial ?_
                  refine Goes.slot 56 (.bool false) (u := .bool (decide (((0 : Nat) : Int) > 0))) (congrArg _ (rfl)) ?_
                  refine Goes.run [9, 10, 11, 12, 13, 14, 15, 16, 17, 18, 19, 20, 21, 22, 23, 24, 25, 26, 27, 28, 29, 30, 31, 32, 33, 34] [] trivial ?_
                  refine Goes.valA 35 (Instr.indexAt 32 (.slice (some ⟨b, o, none⟩) M cL) (.int .i64 ((0 : Nat) : Int))) (.pointer (some ⟨b, o + 0 * 2, none⟩)) (fun w' _ => idxLv b o M cL 0 (by omega) w') ?_
                  refine Goes.run [36] [] trivial ?_
                  refine Goes.valA 37 (Instr.loadAt 2 (.pointer (some ⟨b, o + 0 * 2 + 1, none⟩))) (.int .i64 x.2) (fun w' hm => load1 Tryz.isAgg2 (Cel.same x2 hob (hm.get 0))) ?_
                  refine Goes.run [38] [] trivial ?_
                  refine Goes.slot 86 (.bool false) (u := .bool (decide (x.2 < -1000000000000000))) (congrArg _ (hb4)) ?_
                  refine Goes.run [39, 40, 41, 42] [] trivial ?_
                  refine Goes.valA 43 (Instr.indexAt 32 (.slice (some ⟨b, o, none⟩) M cL) (.int .i64 ((0 : Nat) : Int))) (.pointer (some ⟨b, o + 0 * 2, none⟩)) (fun w' _ => idxLv b o M cL 0 (by omega) w') ?_
                  refine Goes.run [44] [] trivial ?_
                  refine Goes.valA 45 (Instr.loadAt 2 (.pointer (some ⟨b, o + 0 * 2 + 1, none⟩))) (.int .i64 x.2) (fun w' hm => load1 Tryz.isAgg2 (Cel.same x2 hob (hm.get 0))) ?_
                  refine Goes.run [46] [] trivial ?_
                  refine Goes.slot 94 (.bool true) (u := .bool (decide (x.2 > 1000000000000000))) (congrArg _ (hb5)) ?_
                  refine Goes.run [47, 1] [(true, true)] ⟨rfl, trivial⟩ ?_
                  exact Goes.ret [] (.bool false) fun w' hm hI => ⟨by rw [hst, hdrop, rlF, rl_bad1 (.inr (.inr (.inr (of_decide_eq_true hb5))))]; rfl, bel1 hob hm hI⟩
                | false =>
                  refine Goes.run [0, 1] [] trivial ?_
                  refine Goes.valA 2 (Instr.indexAt 32 (.slice (some ⟨b, o, none⟩) M cL) (.int .i64 ((0 : Nat) : Int))) (.pointer (some ⟨b, o + 0 * 2, none⟩)) (fun w' _ => idxLv b o M cL 0 (by omega) w') ?_
                  refine Goes.run [3] [] trivial ?_
                  refine Goes.valA 4 (Instr.loadAt 3 (.pointer (some ⟨b, o + 0 * 2, none⟩))) (.int .i64 x.1) (fun w' hm => load1 Tryz.isAgg3 (Cel.same x1 hob (hm.get 0))) ?_
                  refine Goes.run [5] [] trivial ?_
                  refine Goes.slot 53 (.bool false) (u := .bool (decide (x.1 < 0))) (congrArg _ (hb1)) ?_
                  refine Goes.run [6, 7, 8] [] trivial ?_
                  refine Goes.slot 56 (.bool false) (u := .bool (decide (((0 : Nat) : Int) > 0))) (congrArg _ (rfl)) ?_
                  refine Goes.run [9, 10, 11, 12, 13, 14, 15, 16, 17, 18, 19, 20, 21, 22, 23, 24, 25, 26, 27, 28, 29, 30, 31, 32, 33, 34] [] trivial ?_
                  refine Goes.valA 35 (Instr.indexAt 32 (.slice (some ⟨b, o, none⟩) M cL) (.int .i64 ((0 : Nat) : Int))) (.pointer (some ⟨b, o + 0 * 2, none⟩)) (fun w' _ => idxLv b o M cL 0 (by omega) w') ?_
                  refine Goes.run [36] [] trivial ?_
                  refine Goes.valA 37 (Instr.loadAt 2 (.pointer (some ⟨b, o + 0 * 2 + 1, none⟩))) (.int .i64 x.2) (fun w' hm => load1 Tryz.isAgg2 (Cel.same x2 hob (hm.get 0))) ?_
                  refine Goes.run [38] [] trivial ?_
                  refine Goes.slot 86 (.bool false) (u := .bool (decide (x.2 < -1000000000000000))) (congrArg _ (hb4)) ?_
                  refine Goes.run [39, 40, 41, 42] [] trivial ?_
                  refine Goes.valA 43 (Instr.indexAt 32 (.slice (some ⟨b, o, none⟩) M cL) (.int .i64 ((0 : Nat) : Int))) (.pointer (some ⟨b, o + 0 * 2, none⟩)) (fun w' _ => idxLv b o M cL 0 (by omega) w') ?_
                  refine Goes.run [44] [] trivial ?_
                  refine Goes.valA 45 (Instr.loadAt 2 (.pointer (some ⟨b, o + 0 * 2 + 1, none⟩))) (.int .i64 x.2) (fun w' hm => load1 Tryz.isAgg2 (Cel.same x2 hob (hm.get 0))) ?_
                  refine Goes.run [46] [] trivial ?_
                  refine Goes.slot 94 (.bool false) (u := .bool (decide (x.2 > 1000000000000000))) (congrArg _ (hb5)) ?_
                  refine Goes.run [47, 0] [(false, false)] ⟨rfl, trivial⟩ ?_
                  refine Goes.slot 5 (.int .i64 (0 + 1 : Nat)) (u := .int .i64 (IntKind.i64.wrap (((0 : Nat) : Int) + 1))) (congrArg _ (wrap_nat (by omega))) ?_
                  have hgood := rl_good1 (c := c) (x := x) (last := lstD l 0) (by show (-1 : Int) < x.1; have := of_decide_eq_false hb1; omega) hop (of_decide_eq_false hb4) (of_decide_eq_false hb5)
                  refine Goes.keep 2 ?_
                  exact back (0 + 1) _ ⟨by omega, by rw [hst, hdrop, rlF, hgood, Bool.true_and]; rw [show lstD l (0 + 1) = x.1 by simp [lstD, hx]]⟩ (by omega) (by kernel_rfl) (by kernel_rfl) (by kernel_rfl)
          | succ j =>
            obtain ⟨y, hy⟩ : ∃ y, l[j]? = some y := ⟨l[j]'(by omega), by simp⟩
            obtain ⟨b'', o'', e'', -, y1, -⟩ := hlv j y hy
            cases e''
            have hlast : lstD l (j + 1) = y.1 := by simp [lstD, hy]
            refine Goes.open [0] ?_
            cases hb1 : decide (x.1 < 0) with
            | true =>
              refine Goes.run [0, 1] [] trivial ?_
              refine Goes.valA 2 (Instr.indexAt 32 (.slice (some ⟨b, o, none⟩) M cL) (.int .i64 ((j + 1 : Nat) : Int))) (.pointer (some ⟨b, o + (j + 1) * 2, none⟩)) (fun w' _ => idxLv b o M cL (j + 1) (by omega) w') ?_
              refine Goes.run [3] [] trivial ?_
              refine Goes.valA 4 (Instr.loadAt 3 (.pointer (some ⟨b, o + (j + 1) * 2, none⟩))) (.int .i64 x.1) (fun w' hm => load1 Tryz.isAgg3 (Cel.same x1 hob (hm.get 0))) ?_
              refine Goes.run [5] [] trivial ?_
              refine Goes.slot 53 (.bool true) (u := .bool (decide (x.1 < 0))) (congrArg _ (hb1)) ?_
              refine Goes.run [6, 7, 8, 9, 10, 11, 12, 13, 14, 15, 16, 17, 18, 19, 20, 21, 22, 23, 24, 25, 26, 27, 28, 29, 30, 31, 32, 33, 34, 35, 36, 37, 38, 39, 40, 41, 42, 43, 44, 45, 46, 47, 1] [(true, true)] ⟨rfl, trivial⟩ ?_
              exact Goes.ret [] (.bool false) fun w' hm hI => ⟨by rw [hst, hdrop, rlF, rl_bad1 (.inr (.inl (by unfold opAt; rw [term_out (of_decide_eq_true hb1)])))]; rfl, bel1 hob hm hI⟩
            | false =>
              cases hb3 : decide (y.1 ≥ x.1) with
              | true =>
                refine Goes.run [0, 1] [] trivial ?_
                refine Goes.valA 2 (Instr.indexAt 32 (.slice (some ⟨b, o, none⟩) M cL) (.int .i64 ((j + 1 : Nat) : Int))) (.pointer (some ⟨b, o + (j + 1) * 2, none⟩)) (fun w' _ => idxLv b o M cL (j + 1) (by omega) w') ?_
                refine Goes.run [3] [] trivial ?_
                refine Goes.valA 4 (Instr.loadAt 3 (.pointer (some ⟨b, o + (j + 1) * 2, none⟩))) (.int .i64 x.1) (fun w' hm => load1 Tryz.isAgg3 (Cel.same x1 hob (hm.get 0))) ?_
                refine Goes.run [5] [] trivial ?_
                refine Goes.slot 53 (.bool false) (u := .bool (decide (x.1 < 0))) (congrArg _ (hb1)) ?_
                refine Goes.run [6, 7, 8] [] trivial ?_
                refine Goes.slot 56 (.bool true) (u := .bool (decide (((j + 1 : Nat) : Int) > 0))) (congrArg _ (decide_eq_true (by omega))) ?_
                refine Goes.run [9, 10, 11, 12] [] trivial ?_
                refine Goes.slot 60 (.int .i64 (j : Int)) (u := .int .i64 (IntKind.i64.wrap (((j + 1 : Nat) : Int) - 1))) (congrArg _ (by rw [IntWalk.i64_in _ ⟨by omega, by omega⟩]; omega)) ?_
                refine Goes.valA 13 (Instr.indexAt 32 (.slice (some ⟨b, o, none⟩) M cL) (.int .i64 (j : Int))) (.pointer (some ⟨b, o + j * 2, none⟩)) (fun w' _ => idxLv b o M cL j (by omega) w') ?_
                refine Goes.run [14] [] trivial ?_
                refine Goes.valA 15 (Instr.loadAt 3 (.pointer (some ⟨b, o + j * 2, none⟩))) (.int .i64 y.1) (fun w' hm => load1 Tryz.isAgg3 (Cel.same y1 hob (hm.get 0))) ?_
                refine Goes.run [16, 17] [] trivial ?_
                refine Goes.valA 18 (Instr.indexAt 32 (.slice (some ⟨b, o, none⟩) M cL) (.int .i64 ((j + 1 : Nat) : Int))) (.pointer (some ⟨b, o + (j + 1) * 2, none⟩)) (fun w' _ => idxLv b o M cL (j + 1) (by omega) w') ?_
                refine Goes.run [19] [] trivial ?_
                refine Goes.valA 20 (Instr.loadAt 3 (.pointer (some ⟨b, o + (j + 1) * 2, none⟩))) (.int .i64 x.1) (fun w' hm => load1 Tryz.isAgg3 (Cel.same x1 hob (hm.get 0))) ?_
                refine Goes.run [21] [] trivial ?_
                refine Goes.slot 69 (.bool true) (u := .bool (decide (y.1 ≥ x.1))) (congrArg _ (hb3)) ?_
                refine Goes.run [22, 23, 24, 25, 26, 27, 28, 29, 30, 31, 32, 33, 34, 35, 36, 37, 38, 39, 40, 41, 42, 43, 44, 45, 46, 47, 1] [(true, true)] ⟨rfl, trivial⟩ ?_
                exact Goes.ret [] (.bool false) fun w' hm hI => ⟨by rw [hst, hdrop, rlF, rl_bad1 (.inl (by rw [hlast]; have := of_decide_eq_true hb3; omega))]; rfl, bel1 hob hm hI⟩
              | false =>
                cases hb4 : decide (x.2 < -1000000000000000) with
                | true =>
                  refine Goes.run [0, 1] [] trivial ?_
                  refine Goes.valA 2 (Instr.indexAt 32 (.slice (some ⟨b, o, none⟩) M cL) (.int .i64 ((j + 1 : Nat) : Int))) (.pointer (some ⟨b, o + (j + 1) * 2, none⟩)) (fun w' _ => idxLv b o M cL (j + 1) (by omega) w') ?_
                  refine Goes.run [3] [] trivial ?_
                  refine Goes.valA 4 (Instr.loadAt 3 (.pointer (some ⟨b, o + (j + 1) * 2, none⟩))) (.int .i64 x.1) (fun w' hm => load1 Tryz.isAgg3 (Cel.same x1 hob (hm.get 0))) ?_
                  refine Goes.run [5] [] trivial ?_
                  refine Goes.slot 53 (.bool false) (u := .bool (decide (x.1 < 0))) (congrArg _ (hb1)) ?_
                  refine Goes.run [6, 7, 8] [] trivial ?_
                  refine Goes.slot 56 (.bool true) (u := .bool (decide (((j + 1 : Nat) : Int) > 0))) (congrArg _ (decide_eq_true (by omega))) ?_
                  refine Goes.run [9, 10, 11, 12] [] trivial ?_
                  refine Goes.slot 60 (.int .i64 (j : Int)) (u := .int .i64 (IntKind.i64.wrap (((j + 1 : Nat) : Int) - 1))) (congrArg _ (by rw [IntWalk.i64_in _ ⟨by omega, by omega⟩]; omega)) ?_
                  refine Goes.valA 13 (Instr.indexAt 32 (.slice (some ⟨b, o, none⟩) M cL) (.int .i64 (j : Int))) (.pointer (some ⟨b, o + j * 2, none⟩)) (fun w' _ => idxLv b o M cL j (by omega) w') ?_
                  refine Goes.run [14] [] trivial ?_
                  refine Goes.valA 15 (Instr.loadAt 3 (.pointer (some ⟨b, o + j * 2, none⟩))) (.int .i64 y.1) (fun w' hm => load1 Tryz.isAgg3 (Cel.same y1 hob (hm.get 0))) ?_
                  refine Goes.run [16, 17] [] trivial ?_
                  refine Goes.valA 18 (Instr.indexAt 32 (.slice (some ⟨b, o, none⟩) M cL) (.int .i64 ((j + 1 : Nat) : Int))) (.pointer (some ⟨b, o + (j + 1) * 2, none⟩)) (fun w' _ => idxLv b o M cL (j + 1) (by omega) w') ?_
                  refine Goes.run [19] [] trivial ?_
                  refine Goes.valA 20 (Instr.loadAt 3 (.pointer (some ⟨b, o + (j + 1) * 2, none⟩))) (.int .i64 x.1) (fun w' hm => load1 Tryz.isAgg3 (Cel.same x1 hob (hm.get 0))) ?_
                  refine Goes.run [21] [] trivial ?_
                  refine Goes.slot 69 (.bool false) (u := .bool (decide (y.1 ≥ x.1))) (congrArg _ (hb3)) ?_
                  refine Goes.run [22, 23, 24, 25, 26, 27, 28, 29, 30, 31, 32, 33, 34] [] trivial ?_
                  refine Goes.valA 35 (Instr.indexAt 32 (.slice (some ⟨b, o, none⟩) M cL) (.int .i64 ((j + 1 : Nat) : Int))) (.pointer (some ⟨b, o + (j + 1) * 2, none⟩)) (fun w' _ => idxLv b o M cL (j + 1) (by omega) w') ?_
                  refine Goes.run [36] [] trivial ?_
                  refine Goes.valA 37 (Instr.loadAt 2 (.pointer (some ⟨b, o + (j + 1) * 2 + 1, none⟩))) (.int .i64 x.2) (fun w' hm => load1 Tryz.isAgg2 (Cel.same x2 hob (hm.get 0))) ?_
                  refine Goes.run [38] [] trivial ?_
                  refine Goes.slot 86 (.bool true) (u := .bool (decide (x.2 < -1000000000000000))) (congrArg _ (hb4)) ?_
                  refine Goes.run [39, 40, 41, 42, 43, 44, 45, 46, 47, 1] [(true, true)] ⟨rfl, trivial⟩ ?_
                  exact Goes.ret [] (.bool false) fun w' hm hI => ⟨by rw [hst, hdrop, rlF, rl_bad1 (.inr (.inr (.inl (of_decide_eq_true hb4))))]; rfl, bel1 hob hm hI⟩
                | false =>
                  cases hb5 : decide (x.2 > 1000000000000000) with
                  | true =>
                    refine Goes.run [0, 1] [] trivial ?_
                    refine Goes.valA 2 (Instr.indexAt 32 (.slice (some ⟨b, o, none⟩) M cL) (.int .i64 ((j + 1 : Nat) : Int))) (.pointer (some ⟨b, o + (j + 1) * 2, none⟩)) (fun w' _ => idxLv b o M cL (j + 1) (by omega) w') ?_
                    refine Goes.run [3] [] trivial ?_
                    refine Goes.valA 4 (Instr.loadAt 3 (.pointer (some ⟨b, o + (j + 1) * 2, none⟩))) (.int .i64 x.1) (fun w' hm => load1 Tryz.isAgg3 (Cel.same x1 hob (hm.get 0))) ?_
                    refine Goes.run [5] [] trivial ?_
                    refine Goes.slot 53 (.bool false) (u := .bool (decide (x.1 < 0))) (congrArg _ (hb1)) ?_
                    refine Goes.run [6, 7, 8] [] trivial ?_
                    refine Goes.slot 56 (.bool true) (u := .bool (decide (((j + 1 : Nat) : Int) > 0))) (congrArg _ (decide_eq_true (by omega))) ?_
                    refine Goes.run [9, 10, 11, 12] [] trivial ?_
                    refine Goes.slot 60 (.int .i64 (j : Int)) (u := .int .i64 (IntKind.i64.wrap (((j + 1 : Nat) : Int) - 1))) (congrArg _ (by rw [IntWalk.i64_in _ ⟨by omega, by omega⟩]; omega)) ?_
                    refine Goes.valA 13 (Instr.indexAt 32 (.slice (some ⟨b, o, none⟩) M cL) (.int .i64 (j : Int))) (.pointer (some ⟨b, o + j * 2, none⟩)) (fun w' _ => idxLv b o M cL j (by omega) w') ?_
                    refine Goes.run [14] [] trivial ?_
                    refine Goes.valA 15 (Instr.loadAt 3 (.pointer (some ⟨b, o + j * 2, none⟩))) (.int .i64 y.1) (fun w' hm => load1 Tryz.isAgg3 (Cel.same y1 hob (hm.get 0))) ?_
                    refine Goes.run [16, 17] [] trivial ?_
                    refine Goes.valA 18 (Instr.indexAt 32 (.slice (some ⟨b, o, none⟩) M cL) (.int .i64 ((j + 1 : Nat) : Int))) (.pointer (some ⟨b, o + (j + 1) * 2, none⟩)) (fun w' _ => idxLv b o M cL (j + 1) (by omega) w') ?_
                    refine Goes.run [19] [] trivial ?_
                    refine Goes.valA 20 (Instr.loadAt 3 (.pointer (some ⟨b, o + (j + 1) * 2, none⟩))) (.int .i64 x.1) (fun w' hm => load1 Tryz.isAgg3 (Cel.same x1 hob (hm.get 0))) ?_
                    refine Goes.run [21] [] trivial ?_
                    refine Goes.slot 69 (.bool false) (u := .bool (decide (y.1 ≥ x.1))) (congrArg _ (hb3)) ?_
                    refine Goes.run [22, 23, 24, 25, 26, 27, 28, 29, 30, 31, 32, 33, 34] [] trivial ?_
                    refine Goes.valA 35 (Instr.indexAt 32 (.slice (some ⟨b, o, none⟩) M cL) (.int .i64 ((j + 1 : Nat) : Int))) (.pointer (some ⟨b, o + (j + 1) * 2, none⟩)) (fun w' _ => idxLv b o M cL (j + 1) (by omega) w') ?_
                    refine Goes.run [36] [] trivial ?_
                    refine Goes.valA 37 (Instr.loadAt 2 (.pointer (some ⟨b, o + (j + 1) * 2 + 1, none⟩))) (.int .i64 x.2) (fun w' hm => load1 Tryz.isAgg2 (Cel.same x2 hob (hm.get 0))) ?_
                    refine Goes.run [38] [] trivial ?_
                    refine Goes.slot 86 (.bool false) (u := .bool (decide (x.2 < -1000000000000000))) (congrArg _ (hb4)) ?_
                    refine Goes.run [39, 40, 41, 42] [] trivial ?_
                    refine Goes.valA 43 (Instr.indexAt 32 (.slice (some ⟨b, o, none⟩) M cL) (.int .i64 ((j + 1 : Nat) : Int))) (.pointer (some ⟨b, o + (j + 1) * 2, none⟩)) (fun w' _ => idxLv b o M cL (j + 1) (by omega) w') ?_
                    refine Goes.run [44] [] trivial ?_
                    refine Goes.valA 45 (Instr.loadAt 2 (.pointer (some ⟨b, o + (j + 1) * 2 + 1, none⟩))) (.int .i64 x.2) (fun w' hm => load1 Tryz.isAgg2 (Cel.same x2 hob (hm.get 0))) ?_
                    refine Goes.run [46] [] trivial ?_
                    refine Goes.slot 94 (.bool true) (u := .bool (decide (x.2 > 1000000000000000))) (congrArg _ (hb5)) ?_
                    refine Goes.run [47, 1] [(true, true)] ⟨rfl, trivial⟩ ?_
                    exact Goes.ret [] (.bool false) fun w' hm hI => ⟨by rw [hst, hdrop, rlF, rl_bad1 (.inr (.inr (.inr (of_decide_eq_true hb5))))]; rfl, bel1 hob hm hI⟩
                  | false =>
                    refine Goes.run [0, 1] [] trivial ?_
                    refine Goes.valA 2 (Instr.indexAt 32 (.slice (some ⟨b, o, none⟩) M cL) (.int .i64 ((j + 1 : Nat) : Int))) (.pointer (some ⟨b, o + (j + 1) * 2, none⟩)) (fun w' _ => idxLv b o M cL (j + 1) (by omega) w') ?_
                    refine Goes.run [3] [] trivial ?_
                    refine Goes.valA 4 (Instr.loadAt 3 (.pointer (some ⟨b, o + (j + 1) * 2, none⟩))) (.int .i64 x.1) (fun w' hm => load1 Tryz.isAgg3 (Cel.same x1 hob (hm.get 0))) ?_
                    refine Goes.run [5] [] trivial ?_
                    refine Goes.slot 53 (.bool false) (u := .bool (decide (x.1 < 0))) (congrArg _ (hb1)) ?_
                    refine Goes.run [6, 7, 8] [] trivial ?_
                    refine Goes.slot 56 (.bool true) (u := .bool (decide (((j + 1 : Nat) : Int) > 0))) (congrArg _ (decide_eq_true (by omega))) ?_
                    refine Goes.run [9, 10, 11, 12] [] trivial ?_
                    refine Goes.slot 60 (.int .i64 (j : Int)) (u := .int .i64 (IntKind.i64.wrap (((j + 1 : Nat) : Int) - 1))) (congrArg _ (by rw [IntWalk.i64_in _ ⟨by omega, by omega⟩]; omega)) ?_
                    refine Goes.valA 13 (Instr.indexAt 32 (.slice (some ⟨b, o, none⟩) M cL) (.int .i64 (j : Int))) (.pointer (some ⟨b, o + j * 2, none⟩)) (fun w' _ => idxLv b o M cL j (by omega) w') ?_
                    refine Goes.run [14] [] trivial ?_
                    refine Goes.valA 15 (Instr.loadAt 3 (.pointer (some ⟨b, o + j * 2, none⟩))) (.int .i64 y.1) (fun w' hm => load1 Tryz.isAgg3 (Cel.same y1 hob (hm.get 0))) ?_
                    refine Goes.run [16, 17] [] trivial ?_
                    refine Goes.valA 18 (Instr.indexAt 32 (.slice (some ⟨b, o, none⟩) M cL) (.int .i64 ((j + 1 : Nat) : Int))) (.pointer (some ⟨b, o + (j + 1) * 2, none⟩)) (fun w' _ => idxLv b o M cL (j + 1) (by omega) w') ?_
                    refine Goes.run [19] [] trivial ?_
                    refine Goes.valA 20 (Instr.loadAt 3 (.pointer (some ⟨b, o + (j + 1) * 2, none⟩))) (.int .i64 x.1) (fun w' hm => load1 Tryz.isAgg3 (Cel.same x1 hob (hm.get 0))) ?_
                    refine Goes.run [21] [] trivial ?_
                    refine Goes.slot 69 (.bool false) (u := .bool (decide (y.1 ≥ x.1))) (congrArg _ (hb3)) ?_
                    refine Goes.run [22, 23, 24, 25, 26, 27, 28, 29, 30, 31, 32, 33, 34] [] trivial ?_
                    refine Goes.valA 35 (Instr.indexAt 32 (.slice (some ⟨b, o, none⟩) M cL) (.int .i64 ((j + 1 : Nat) : Int))) (.pointer (some ⟨b, o + (j + 1) * 2, none⟩)) (fun w' _ => idxLv b o M cL (j + 1) (by omega) w') ?_
                    refine Goes.run [36] [] trivial ?_
                    refine Goes.valA 37 (Instr.loadAt 2 (.pointer (some ⟨b, o + (j + 1) * 2 + 1, none⟩))) (.int .i64 x.2) (fun w' hm => load1 Tryz.isAgg2 (Cel.same x2 hob (hm.get 0))) ?_
                    refine Goes.run [38] [] trivial ?_
                    refine Goes.slot 86 (.bool false) (u := .bool (decide (x.2 < -1000000000000000))) (congrArg _ (hb4)) ?_
                    refine Goes.run [39, 40, 41, 42] [] trivial ?_
                    refine Goes.valA 43 (Instr.indexAt 32 (.slice (some ⟨b, o, none⟩) M cL) (.int .i64 ((j + 1 : Nat) : Int))) (.pointer (some ⟨b, o + (j + 1) * 2, none⟩)) (fun w' _ => idxLv b o M cL (j + 1) (by omega) w') ?_
                    refine Goes.run [44] [] trivial ?_
                    refine Goes.valA 45 (Instr.loadAt 2 (.pointer (some ⟨b, o + (j + 1) * 2 + 1, none⟩))) (.int .i64 x.2) (fun w' hm => load1 Tryz.isAgg2 (Cel.same x2 hob (hm.get 0))) ?_
                    refine Goes.run [46] [] trivial ?_
                    refine Goes.slot 94 (.bool false) (u := .bool (decide (x.2 > 1000000000000000))) (congrArg _ (hb5)) ?_
                    refine Goes.run [47, 0] [(false, false)] ⟨rfl, trivial⟩ ?_
                    refine Goes.slot 5 (.int .i64 ((j + 1) + 1 : Nat)) (u := .int .i64 (IntKind.i64.wrap ((((j + 1) : Nat) : Int) + 1))) (congrArg _ (wrap_nat (by omega))) ?_
                    have hgood := rl_good1 (c := c) (x := x) (last := lstD l (j + 1)) (by rw [hlast]; have := of_decide_eq_false hb3; omega) hop (of_decide_eq_false hb4) (of_decide_eq_false hb5)
                    refine Goes.keep 2 ?_
                    exact back ((j + 1) + 1) _ ⟨by omega, by rw [hst, hdrop, rlF, hgood, Bool.true_and]; rw [show lstD l ((j + 1) + 1) = x.1 by simp [lstD, hx]]⟩ (by omega) (by kernel_rfl) (by kernel_rfl) (by kernel_rfl)
    · refine Goes.lone1 6 (TookS.callM 6 26 #[cv op k t (.slice aC NC cc), .int .i64 x.1] fun w1 hm1 hn1 hI1 h01 => ?_)
      have hB1 : Below w.heap.size w w1 := bel1 hob hm1 hI1
      refine (rterm_any c w.heap.size x.1 _ w1 hsz hB1.size (hN.later hB1)).mono fun e w2 hR => ?_
      obtain ⟨o6, k6, s6, a6, n6, c6, he, hv1, hv2, hB2⟩ := hR.form
      refine ⟨_, fun w' => Ch (Mem.ids [(b, ob)]) w w' ∧ True, _, he, h01.bel hB2, hm1.bel hB2, hn1, hI1.bel hB2, ?_⟩
      refine Goes.run [7, 8, 9] [] trivial ?_
      refine Goes.oneA 11 2 [0, 1] ?_
      refine Goes.run [12] [] trivial ?_
      refine Goes.fork (o6 == 26) 33 96 [(1, .slice (some ⟨b, o, none⟩) M cL), (2, .pointer (some ⟨g2, 0, none⟩)), (5, .int .i64 (i : Int)), (6, .pointer (some ⟨g6, 0, none⟩)), (7, .bool (termP c x.1).isSome), (32, .bool ((o6 == 26) || o6 == 28))] [(1, .slice (some ⟨b, o, none⟩) M cL), (2, .pointer (some ⟨g2, 0, none⟩)), (5, .int .i64 (i : Int)), (6, .pointer (some ⟨g6, 0, none⟩)), (7, .bool (termP c x.1).isSome), (32, .bool true)] [(1, .slice (some ⟨b, o, none⟩) M cL), (2, .pointer (some ⟨g2, 0, none⟩)), (5, .int .i64 (i : Int)), (6, .pointer (some ⟨g6, 0, none⟩)), (7, .bool (termP c x.1).isSome), (32, .bool (o6 == 28))] [2, 1] [2, 0, 2] [((o6 == 26), true)] [((o6 == 26), false)] (fun h => ⟨by simp only [h, Bool.true_or], h, trivial⟩) (fun h => ⟨by simp only [h, Bool.false_or], h, trivial⟩) fun J1 => ?_
      refine Goes.fork ((o6 == 26) || o6 == 28) 38 96 [(1, .slice (some ⟨b, o, none⟩) M cL), (2, .pointer (some ⟨g2, 0, none⟩)), (5, .int .i64 (i : Int)), (6, .pointer (some ⟨g6, 0, none⟩)), (7, .bool (termP c x.1).isSome), (37, .bool (((o6 == 26) || o6 == 28) || o6 == 29))] [(1, .slice (some ⟨b, o, none⟩) M cL), (2, .pointer (some ⟨g2, 0, none⟩)), (5, .int .i64 (i : Int)), (6, .pointer (some ⟨g6, 0, none⟩)), (7, .bool (termP c x.1).isSome), (37, .bool true)] [(1, .slice (some ⟨b, o, none⟩) M cL), (2, .pointer (some ⟨g2, 0, none⟩)), (5, .int .i64 (i : Int)), (6, .pointer (some ⟨g6, 0, none⟩)), (7, .bool (termP c x.1).isSome), (37, .bool (o6 == 29))] [1] [0, 2] [(((o6 == 26) || o6 == 28), true)] [(((o6 == 26) || o6 == 28), false)] (fun h => ⟨by simp only [h, Bool.true_or], h, trivial⟩) (fun h => ⟨by simp only [h, Bool.false_or], h, trivial⟩) fun J2 => ?_
      refine Goes.fork (((o6 == 26) || o6 == 28) || o6 == 29) 43 96 [(1, .slice (some ⟨b, o, none⟩) M cL), (2, .pointer (some ⟨g2, 0, none⟩)), (5, .int .i64 (i : Int)), (6, .pointer (some ⟨g6, 0, none⟩)), (7, .bool (termP c x.1).isSome), (42, .bool ((((o6 == 26) || o6 == 28) || o6 == 29) || o6 == 30))] [(1, .slice (some ⟨b, o, none⟩) M cL), (2, .pointer (some ⟨g2, 0, none⟩)), (5, .int .i64 (i : Int)), (6, .pointer (some ⟨g6, 0, none⟩)), (7, .bool (termP c x.1).isSome), (42, .bool true)] [(1, .slice (some ⟨b, o, none⟩) M cL), (2, .pointer (some ⟨g2, 0, none⟩)), (5, .int .i64 (i : Int)), (6, .pointer (some ⟨g6, 0, none⟩)), (7, .bool (termP c x.1).isSome), (42, .bool (o6 == 30))] [1] [0, 2] [((((o6 == 26) || o6 == 28) || o6 == 29), true)] [((((o6 == 26) || o6 == 28) || o6 == 29), false)] (fun h => ⟨by simp only [h, Bool.true_or], h, trivial⟩) (fun h => ⟨by simp only [h, Bool.false_or], h, trivial⟩) fun J3 => ?_
      refine Goes.fork ((((o6 == 26) || o6 == 28) || o6 == 29) || o6 == 30) 8 96 [(1, .slice (some ⟨b, o, none⟩) M cL), (2, .pointer (some ⟨g2, 0, none⟩)), (5, .int .i64 (i : Int)), (6, .pointer (some ⟨g6, 0, none⟩)), (7, .bool (termP c x.1).isSome), (47, .bool (((((o6 == 26) || o6 == 28) || o6 == 29) || o6 == 30) || o6 == 31))] [(1, .slice (some ⟨b, o, none⟩) M cL), (2, .pointer (some ⟨g2, 0, none⟩)), (5, .int .i64 (i : Int)), (6, .pointer (some ⟨g6, 0, none⟩)), (7, .bool (termP c x.1).isSome), (47, .bool true)] [(1, .slice (some ⟨b, o, none⟩) M cL), (2, .pointer (some ⟨g2, 0, none⟩)), (5, .int .i64 (i : Int)), (6, .pointer (some ⟨g6, 0, none⟩)), (7, .bool (termP c x.1).isSome), (47, .bool (o6 == 31))] [1] [0, 2] [(((((o6 == 26) || o6 == 28) || o6 == 29) || o6 == 30), true)] [(((((o6 == 26) || o6 == 28) || o6 == 29) || o6 == 30), false)] (fun h => ⟨by simp only [h, Bool.true_or], h, trivial⟩) (fun h => ⟨by simp only [h, Bool.false_or], h, trivial⟩) fun J4 => ?_
      refine Goes.run [] [] trivial ?_
      obtain ⟨W, hW⟩ : ∃ W, (((((o6 == 26) || o6 == 28) || o6 == 29) || o6 == 30) || o6 == 31) = W := ⟨_, rfl⟩
      have hop : opAt c x.1 = ((termP c x.1).isSome && W) := by
        unfold opAt
        cases hT : termP c x.1 with
        | none => rfl
        | some t6 =>
          cases t6 with
          | mk o7 k7 s7 kids7 =>
            obtain ⟨a7, c7, e7, -⟩ := (hv1 _ hT).open
            unfold cv at e7
            simp only [Value.agg.injEq, Array.mk.injEq, List.cons.injEq, Value.int.injEq, true_and] at e7
            obtain ⟨rfl, -⟩ := e7
            rw [← hW]
            simp only [Option.isSome_some, Bool.true_and]
            rfl
      refine Goes.slot 8 (.bool W) (u := .bool (((((o6 == 26) || o6 == 28) || o6 == 29) || o6 == 30) || o6 == 31)) (congrArg _ hW) ?_
      cases hk : (termP c x.1).isSome with
      | false =>
        have hop : opAt c x.1 = false := by rw [hop, hk]; rfl
        cases i with
        | zero =>
          refine Goes.open [0] ?_
          cases hb1 : decide (x.1 < 0) with
          | true =>
            refine Goes.run [0, 1] [] trivial ?_
            refine Goes.valA 2 (Instr.indexAt 32 (.slice (some ⟨b, o, none⟩) M cL) (.int .i64 ((0 : Nat) : Int))) (.pointer (some ⟨b, o + 0 * 2, none⟩)) (fun w' _ => idxLv b o M cL 0 (by omega) w') ?_
            refine Goes.run [3] [] trivial ?_
            refine Goes.valA 4 (Instr.loadAt 3 (.pointer (some ⟨b, o + 0 * 2, none⟩))) (.int .i64 x.1) (fun w' hm => load1 Tryz.isAgg3 (Cel.same x1 hob (hm.get 0))) ?_
            refine Goes.run [5] [] trivial ?_
            refine Goes.slot 53 (.bool true) (u := .bool (decide (x.1 < 0))) (congrArg _ (hb1)) ?_
            refine Goes.run [6, 7, 8, 9, 10, 11, 12, 13, 14, 15, 16, 17, 18, 19, 20, 21, 22, 23, 24, 25, 26, 27, 28, 29, 30, 31, 32, 33, 34, 35, 36, 37, 38, 39, 40, 41, 42, 43, 44, 45, 46, 47, 1] [(true, true)] ⟨rfl, trivial⟩ ?_
            exact Goes.ret [] (.bool false) fun w' hm hI => ⟨by rw [hst, hdrop, rlF, rl_bad1 (.inl (by show x.1 ≤ -1; have := of_decide_eq_true hb1; omega))]; rfl, bel1 hob hm hI⟩
          | false =>
            refine Goes.run [0, 1] [] trivial ?_
            refine Goes.valA 2 (Instr.indexAt 32 (.slice (some ⟨b, o, none⟩) M cL) (.int .i64 ((0 : Nat) : Int))) (.pointer (some ⟨b, o + 0 * 2, none⟩)) (fun w' _ => idxLv b o M cL 0 (by omega) w') ?_
            refine Goes.run [3] [] trivial ?_
            refine Goes.valA 4 (Instr.loadAt 3 (.pointer (some ⟨b, o + 0 * 2, none⟩))) (.int .i64 x.1) (fun w' hm => load1 Tryz.isAgg3 (Cel.same x1 hob (hm.get 0))) ?_
            refine Goes.run [5] [] trivial ?_
            refine Goes.slot 53 (.bool false) (u := .bool (decide (x.1 < 0))) (congrArg _ (hb1)) ?_
            refine Goes.run [6, 7, 8] [] trivial ?_
            refine Goes.slot 56 (.bool false) (u := .bool (decide (((0 : Nat) : Int) > 0))) (congrArg _ (rfl)) ?_
            refine Goes.run [9, 10, 11, 12, 13, 14, 15, 16, 17, 18, 19, 20, 21, 22, 23, 24, 25, 26, 27, 28, 29, 30, 31, 32, 33, 34, 35, 36, 37, 38, 39, 40, 41, 42, 43, 44, 45, 46, 47, 1] [(true, true)] ⟨rfl, trivial⟩ ?_
            exact Goes.ret [] (.bool false) fun w' hm hI => ⟨by rw [hst, hdrop, rlF, rl_bad1 (.inr (.inl hop))]; rfl, bel1 hob hm hI⟩
        | succ j =>
          obtain ⟨y, hy⟩ : ∃ y, l[j]? = some y := ⟨l[j]'(by omega), by simp⟩
          obtain ⟨b'', o'', e'', -, y1, -⟩ := hlv j y hy
          cases e''
          have hlast : lstD l (j + 1) = y.1 := by simp [lstD, hy]
          refine Goes.open [0] ?_
          cases hb1 : decide (x.1 < 0) with
          | true =>
            refine Goes.run [0, 1] [] trivial ?_
            refine Goes.valA 2 (Instr.indexAt 32 (.slice (some ⟨b, o, none⟩) M cL) (.int .i64 ((j + 1 : Nat) : Int))) (.pointer (some ⟨b, o + (j + 1) * 2, none⟩)) (fun w' _ => idxLv b o M cL (j + 1) (by omega) w') ?_
            refine Goes.run [3] [] trivial ?_
            refine Goes.valA 4 (Instr.loadAt 3 (.pointer (some ⟨b, o + (j + 1) * 2, none⟩))) (.int .i64 x.1) (fun w' hm => load1 Tryz.isAgg3 (Cel.same x1 hob (hm.get 0))) ?_
            refine Goes.run [5] [] trivial ?_
            refine Goes.slot 53 (.bool true) (u := .bool (decide (x.1 < 0))) (congrArg _ (hb1)) ?_
            refine Goes.run [6, 7, 8, 9, 10, 11, 12, 13, 14, 15, 16, 17, 18, 19, 20, 21, 22, 23, 24, 25, 26, 27, 28, 29, 30, 31, 32, 33, 34, 35, 36, 37, 38, 39, 40, 41, 42, 43, 44, 45, 46, 47, 1] [(true, true)] ⟨rfl, trivial⟩ ?_
            exact Goes.ret [] (.bool false) fun w' hm hI => ⟨by rw [hst, hdrop, rlF, rl_bad1 (.inr (.inl (by unfold opAt; rw [term_out (of_decide_eq_true hb1)])))]; rfl, bel1 hob hm hI⟩
          | false =>
            cases hb3 : decide (y.1 ≥ x.1) with
            | true =>
              refine Goes.run [0, 1] [] trivial ?_
              refine Goes.valA 2 (Instr.indexAt 32 (.slice (some ⟨b, o, none⟩) M cL) (.int .i64 ((j + 1 : Nat) : Int))) (.pointer (some ⟨b, o + (j + 1) * 2, none⟩)) (fun w' _ => idxLv b o M cL (j + 1) (by omega) w') ?_
              refine Goes.run [3] [] trivial ?_
              refine Goes.valA 4 (Instr.loadAt 3 (.pointer (some ⟨b, o + (j + 1) * 2, none⟩))) (.int .i64 x.1) (fun w' hm => load1 Tryz.isAgg3 (Cel.same x1 hob (hm.get 0))) ?_
              refine Goes.run [5] [] trivial ?_
              refine Goes.slot 53 (.bool false) (u := .bool (decide (x.1 < 0))) (congrArg _ (hb1)) ?_
              refine Goes.run [6, 7, 8] [] trivial ?_
              refine Goes.slot 56 (.bool true) (u := .bool (decide (((j + 1 : Nat) : Int) > 0))) (congrArg _ (decide_eq_true (by omega))) ?_
              refine Goes.run [9, 10, 11, 12] [] trivial ?_
              refine Goes.slot 60 (.int .i64 (j : Int)) (u := .int .i64 (IntKind.i64.wrap (((j + 1 : Nat) : Int) - 1))) (congrArg _ (by rw [IntWalk.i64_in _ ⟨by omega, by omega⟩]; omega)) ?_
              refine Goes.valA 13 (Instr.indexAt 32 (.slice (some ⟨b, o, none⟩) M cL) (.int .i64 (j : Int))) (.pointer (some ⟨b, o + j * 2, none⟩)) (fun w' _ => idxLv b o M cL j (by omega) w') ?_
              refine Goes.run [14] [] trivial ?_
              refine Goes.valA 15 (Instr.loadAt 3 (.pointer (some ⟨b, o + j * 2, none⟩))) (.int .i64 y.1) (fun w' hm => load1 Tryz.isAgg3 (Cel.same y1 hob (hm.get 0))) ?_
              refine Goes.run [16, 17] [] trivial ?_
              refine Goes.valA 18 (Instr.indexAt 32 (.slice (some ⟨b, o, none⟩) M cL) (.int .i64 ((j + 1 : Nat) : Int))) (.pointer (some ⟨b, o + (j + 1) * 2, none⟩)) (fun w' _ => idxLv b o M cL (j + 1) (by omega) w') ?_
              refine Goes.run [19] [] trivial ?_
              refine Goes.valA 20 (Instr.loadAt 3 (.pointer (some ⟨b, o + (j + 1) * 2, none⟩))) (.int .i64 x.1) (fun w' hm => load1 Tryz.isAgg3 (Cel.same x1 hob (hm.get 0))) ?_
              refine Goes.run [21] [] trivial ?_
              refine Goes.slot 69 (.bool true) (u := .bool (decide (y.1 ≥ x.1))) (congrArg _ (hb3)) ?_
              refine Goes.run [22, 23, 24, 25, 26, 27, 28, 29, 30, 31, 32, 33, 34, 35, 36, 37, 38, 39, 40, 41, 42, 43, 44, 45, 46, 47, 1] [(true, true)] ⟨rfl, trivial⟩ ?_
              exact Goes.ret [] (.bool false) fun w' hm hI => ⟨by rw [hst, hdrop, rlF, rl_bad1 (.inl (by rw [hlast]; have := of_decide_eq_true hb3; omega))]; rfl, bel1 hob hm hI⟩
            | false =>
              refine Goes.run [0, 1] [] trivial ?_
              refine Goes.valA 2 (Instr.indexAt 32 (.slice (some ⟨b, o, none⟩) M cL) (.int .i64 ((j + 1 : Nat) : Int))) (.pointer (some ⟨b, o + (j + 1) * 2, none⟩)) (fun w' _ => idxLv b o M cL (j + 1) (by omega) w') ?_
              refine Goes.run [3] [] trivial ?_
              refine Goes.valA 4 (Instr.loadAt 3 (.pointer (some ⟨b, o + (j + 1) * 2, none⟩))) (.int .i64 x.1) (fun w' hm => load1 Tryz.isAgg3 (Cel.same x1 hob (hm.get 0))) ?_
              refine Goes.run [5] [] trivial ?_
              refine Goes.slot 53 (.bool false) (u := .bool (decide (x.1 < 0))) (congrArg _ (hb1)) ?_
              refine Goes.run [6, 7, 8] [] trivial ?_
              refine Goes.slot 56 (.bool true) (u := .bool (decide (((j + 1 : Nat) : Int) > 0))) (congrArg _ (decide_eq_true (by omega))) ?_
              refine Goes.run [9, 10, 11, 12] [] trivial ?_
              refine Goes.slot 60 (.int .i64 (j : Int)) (u := .int .i64 (IntKind.i64.wrap (((j + 1 : Nat) : Int) - 1))) (congrArg _ (by rw [IntWalk.i64_in _ ⟨by omega, by omega⟩]; omega)) ?_
              refine Goes.valA 13 (Instr.indexAt 32 (.slice (some ⟨b, o, none⟩) M cL) (.int .i64 (j : Int))) (.pointer (some ⟨b, o + j * 2, none⟩)) (fun w' _ => idxLv b o M cL j (by omega) w') ?_
              refine Goes.run [14] [] trivial ?_
              refine Goes.valA 15 (Instr.loadAt 3 (.pointer (some ⟨b, o + j * 2, none⟩))) (.int .i64 y.1) (fun w' hm => load1 Tryz.isAgg3 (Cel.same y1 hob (hm.get 0))) ?_
              refine Goes.run [16, 17] [] trivial ?_
              refine Goes.valA 18 (Instr.indexAt 32 (.slice (some ⟨b, o, none⟩) M cL) (.int .i64 ((j + 1 : Nat) : Int))) (.pointer (some ⟨b, o + (j + 1) * 2, none⟩)) (fun w' _ => idxLv b o M cL (j + 1) (by omega) w') ?_
              refine Goes.run [19] [] trivial ?_
              refine Goes.valA 20 (Instr.loadAt 3 (.pointer (some ⟨b, o + (j + 1) * 2, none⟩))) (.int .i64 x.1) (fun w' hm => load1 Tryz.isAgg3 (Cel.same x1 hob (hm.get 0))) ?_
              refine Goes.run [21] [] trivial ?_
              refine Goes.slot 69 (.bool false) (u := .bool (decide (y.1 ≥ x.1))) (congrArg _ (hb3)) ?_
              refine Goes.run [22, 23, 24, 25, 26, 27, 28, 29, 30, 31, 32, 33, 34, 35, 36, 37, 38, 39, 40, 41, 42, 43, 44, 45, 46, 47, 1] [(true, true)] ⟨rfl, trivial⟩ ?_
              exact Goes.ret [] (.bool false) fun w' hm hI => ⟨by rw [hst, hdrop, rlF, rl_bad1 (.inr (.inl hop))]; rfl, bel1 hob hm hI⟩
      | true =>
        cases W with
        | false =>
          have hop : opAt c x.1 = false := by rw [hop, hk]; rfl
          cases i with
          | zero =>
            refine Goes.open [0] ?_
            cases hb1 : decide (x.1 < 0) with
            | true =>
              refine Goes.run [0, 1] [] trivial ?_
              refine Goes.valA 2 (Instr.indexAt 32 (.slice (some ⟨b, o, none⟩) M cL) (.int .i64 ((0 : Nat) : Int))) (.pointer (some ⟨b, o + 0 * 2, none⟩)) (fun w' _ => idxLv b o M cL 0 (by omega) w') ?_
              refine Goes.run [3] [] trivial ?_
              refine Goes.valA 4 (Instr.loadAt 3 (.pointer (some ⟨b, o + 0 * 2, none⟩))) (.int .i64 x.1) (fun w' hm => load1 Tryz.isAgg3 (Cel.same x1 hob (hm.get 0))) ?_
              refine Goes.run [5] [] trivial ?_
              refine Goes.slot 53 (.bool true) (u := .bool (decide (x.1 < 0))) (congrArg _ (hb1)) ?_
              refine Goes.run [6, 7, 8, 9, 10, 11, 12, 13, 14, 15, 16, 17, 18, 19, 20, 21, 22, 23, 24, 25, 26, 27, 28, 29, 30, 31, 32, 33, 34, 35, 36, 37, 38, 39, 40, 41, 42, 43, 44, 45, 46, 47, 1] [(true, true)] ⟨rfl, trivial⟩ ?_
              exact Goes.ret [] (.bool false) fun w' hm hI => ⟨by rw [hst, hdrop, rlF, rl_bad1 (.inl (by show x.1 ≤ -1; have := of_decide_eq_true hb1; omega))]; rfl, bel1 hob hm hI⟩
            | false =>
              refine Goes.run [0, 1] [] trivial ?_
              refine Goes.valA 2 (Instr.indexAt 32 (.slice (some ⟨b, o, none⟩) M cL) (.int .i64 ((0 : Nat) : Int))) (.pointer (some ⟨b, o + 0 * 2, none⟩)) (fun w' _ => idxLv b o M cL 0 (by omega) w') ?_
              refine Goes.run [3] [] trivial ?_
              refine Goes.valA 4 (Instr.loadAt 3 (.pointer (some ⟨b, o + 0 * 2, none⟩))) (.int .i64 x.1) (fun w' hm => load1 Tryz.isAgg3 (Cel.same x1 hob (hm.get 0))) ?_
              refine Goes.run [5] [] trivial ?_
              refine Goes.slot 53 (.bool false) (u := .bool (decide (x.1 < 0))) (congrArg _ (hb1)) ?_
              refine Goes.run [6, 7, 8] [] trivial ?_
              refine Goes.slot 56 (.bool false) (u := .bool (decide (((0 : Nat) : Int) > 0))) (congrArg _ (rfl)) ?_
              refine Goes.run [9, 10, 11, 12, 13, 14, 15, 16, 17, 18, 19, 20, 21, 22, 23, 24, 25, 26, 27, 28, 29, 30, 31, 32, 33, 34, 35, 36, 37, 38, 39, 40, 41, 42, 43, 44, 45, 46, 47, 1] [(true, true)] ⟨rfl, trivial⟩ ?_
              exact Goes.ret [] (.bool false) fun w' hm hI => ⟨by rw [hst, hdrop, rlF, rl_bad1 (.inr (.inl hop))]; rfl, bel1 hob hm hI⟩
          | succ j =>
            obtain ⟨y, hy⟩ : ∃ y, l[j]? = some y := ⟨l[j]'(by omega), by simp⟩
            obtain ⟨b'', o'', e'', -, y1, -⟩ := hlv j y hy
            cases e''
            have hlast : lstD l (j + 1) = y.1 := by simp [lstD, hy]
            refine Goes.open [0] ?_
            cases hb1 : decide (x.1 < 0) with
            | true =>
              refine Goes.run [0, 1] [] trivial ?_
              refine Goes.valA 2 (Instr.indexAt 32 (.slice (some ⟨b, o, none⟩) M cL) (.int .i64 ((j + 1 : Nat) : Int))) (.pointer (some ⟨b, o + (j + 1) * 2, none⟩)) (fun w' _ => idxLv b o M cL (j + 1) (by omega) w') ?_
              refine Goes.run [3] [] trivial ?_
              refine Goes.valA 4 (Instr.loadAt 3 (.pointer (some ⟨b, o + (j + 1) * 2, none⟩))) (.int .i64 x.1) (fun w' hm => load1 Tryz.isAgg3 (Cel.same x1 hob (hm.get 0))) ?_
              refine Goes.run [5] [] trivial ?_
              refine Goes.slot 53 (.bool true) (u := .bool (decide (x.1 < 0))) (congrArg _ (hb1)) ?_
              refine Goes.run [6, 7, 8, 9, 10, 11, 12, 13, 14, 15, 16, 17, 18, 19, 20, 21, 22, 23, 24, 25, 26, 27, 28, 29, 30, 31, 32, 33, 34, 35, 36, 37, 38, 39, 40, 41, 42, 43, 44, 45, 46, 47, 1] [(true, true)] ⟨rfl, trivial⟩ ?_
              exact Goes.ret [] (.bool false) fun w' hm hI => ⟨by rw [hst, hdrop, rlF, rl_bad1 (.inr (.inl (by unfold opAt; rw [term_out (of_decide_eq_true hb1)])))]; rfl, bel1 hob hm hI⟩
            | false =>
              cases hb3 : decide (y.1 ≥ x.1) with
              | true =>
                refine Goes.run [0, 1] [] trivial ?_
                refine Goes.valA 2 (Instr.indexAt 32 (.slice (some ⟨b, o, none⟩) M cL) (.int .i64 ((j + 1 : Nat) : Int))) (.pointer (some ⟨b, o + (j + 1) * 2, none⟩)) (fun w' _ => idxLv b o M cL (j + 1) (by omega) w') ?_
                refine Goes.run [3] [] trivial ?_
                refine Goes.valA 4 (Instr.loadAt 3 (.pointer (some ⟨b, o + (j + 1) * 2, none⟩))) (.int .i64 x.1) (fun w' hm => load1 Tryz.isAgg3 (Cel.same x1 hob (hm.get 0))) ?_
                refine Goes.run [5] [] trivial ?_
                refine Goes.slot 53 (.bool false) (u := .bool (decide (x.1 < 0))) (congrArg _ (hb1)) ?_
                refine Goes.run [6, 7, 8] [] trivial ?_
                refine Goes.slot 56 (.bool true) (u := .bool (decide (((j + 1 : Nat) : Int) > 0))) (congrArg _ (decide_eq_true (by omega))) ?_
                refine Goes.run [9, 10, 11, 12] [] trivial ?_
                refine Goes.slot 60 (.int .i64 (j : Int)) (u := .int .i64 (IntKind.i64.wrap (((j + 1 : Nat) : Int) - 1))) (congrArg _ (by rw [IntWalk.i64_in _ ⟨by omega, by omega⟩]; omega)) ?_
                refine Goes.valA 13 (Instr.indexAt 32 (.slice (some ⟨b, o, none⟩) M cL) (.int .i64 (j : Int))) (.pointer (some ⟨b, o + j * 2, none⟩)) (fun w' _ => idxLv b o M cL j (by omega) w') ?_
                refine Goes.run [14] [] trivial ?_
                refine Goes.valA 15 (Instr.loadAt 3 (.pointer (some ⟨b, o + j * 2, none⟩))) (.int .i64 y.1) (fun w' hm => load1 Tryz.isAgg3 (Cel.same y1 hob (hm.get 0))) ?_
                refine Goes.run [16, 17] [] trivial ?_
                refine Goes.valA 18 (Instr.indexAt 32 (.slice (some ⟨b, o, none⟩) M cL) (.int .i64 ((j + 1 : Nat) : Int))) (.pointer (some ⟨b, o + (j + 1) * 2, none⟩)) (fun w' _ => idxLv b o M cL (j + 1) (by omega) w') ?_
                refine Goes.run [19] [] trivial ?_
                refine Goes.valA 20 (Instr.loadAt 3 (.pointer (some ⟨b, o + (j + 1) * 2, none⟩))) (.int .i64 x.1) (fun w' hm => load1 Tryz.isAgg3 (Cel.same x1 hob (hm.get 0))) ?_
                refine Goes.run [21] [] trivial ?_
                refine Goes.slot 69 (.bool true) (u := .bool (decide (y.1 ≥ x.1))) (congrArg _ (hb3)) ?_
                refine Goes.run [22, 23, 24, 25, 26, 27, 28, 29, 30, 31, 32, 33, 34, 35, 36, 37, 38, 39, 40, 41, 42, 43, 44, 45, 46, 47, 1] [(true, true)] ⟨rfl, trivial⟩ ?_
                exact Goes.ret [] (.bool false) fun w' hm hI => ⟨by rw [hst, hdrop, rlF, rl_bad1 (.inl (by rw [hlast]; have := of_decide_eq_true hb3; omega))]; rfl, bel1 hob hm hI⟩
              | false =>
                refine Goes.run [0, 1] [] trivial ?_
                refine Goes.valA 2 (Instr.indexAt 32 (.slice (some ⟨b, o, none⟩) M cL) (.int .i64 ((j + 1 : Nat) : Int))) (.pointer (some ⟨b, o + (j + 1) * 2, none⟩)) (fun w' _ => idxLv b o M cL (j + 1) (by omega) w') ?_
                refine Goes.run [3] [] trivial ?_
                refine Goes.valA 4 (Instr.loadAt 3 (.pointer (some ⟨b, o + (j + 1) * 2, none⟩))) (.int .i64 x.1) (fun w' hm => load1 Tryz.isAgg3 (Cel.same x1 hob (hm.get 0))) ?_
                refine Goes.run [5] [] trivial ?_
                refine Goes.slot 53 (.bool false) (u := .bool (decide (x.1 < 0))) (congrArg _ (hb1)) ?_
                refine Goes.run [6, 7, 8] [] trivial ?_
                refine Goes.slot 56 (.bool true) (u := .bool (decide (((j + 1 : Nat) : Int) > 0))) (congrArg _ (decide_eq_true (by omega))) ?_
                refine Goes.run [9, 10, 11, 12] [] trivial ?_
                refine Goes.slot 60 (.int .i64 (j : Int)) (u := .int .i64 (IntKind.i64.wrap (((j + 1 : Nat) : Int) - 1))) (congrArg _ (by rw [IntWalk.i64_in _ ⟨by omega, by omega⟩]; omega)) ?_
                refine Goes.valA 13 (Instr.indexAt 32 (.slice (some ⟨b, o, none⟩) M cL) (.int .i64 (j : Int))) (.pointer (some ⟨b, o + j * 2, none⟩)) (fun w' _ => idxLv b o M cL j (by omega) w') ?_
                refine Goes.run [14] [] trivial ?_
                refine Goes.valA 15 (Instr.loadAt 3 (.pointer (some ⟨b, o + j * 2, none⟩))) (.int .i64 y.1) (fun w' hm => load1 Tryz.isAgg3 (Cel.same y1 hob (hm.get 0))) ?_
                refine Goes.run [16, 17] [] trivial ?_
                refine Goes.valA 18 (Instr.indexAt 32 (.slice (some ⟨b, o, none⟩) M cL) (.int .i64 ((j + 1 : Nat) : Int))) (.pointer (some ⟨b, o + (j + 1) * 2, none⟩)) (fun w' _ => idxLv b o M cL (j + 1) (by omega) w') ?_
                refine Goes.run [19] [] trivial ?_
                refine Goes.valA 20 (Instr.loadAt 3 (.pointer (some ⟨b, o + (j + 1) * 2, none⟩))) (.int .i64 x.1) (fun w' hm => load1 Tryz.isAgg3 (Cel.same x1 hob (hm.get 0))) ?_
                refine Goes.run [21] [] trivial ?_
                refine Goes.slot 69 (.bool false) (u := .bool (decide (y.1 ≥ x.1))) (congrArg _ (hb3)) ?_
                refine Goes.run [22, 23, 24, 25, 26, 27, 28, 29, 30, 31, 32, 33, 34, 35, 36, 37, 38, 39, 40, 41, 42, 43, 44, 45, 46, 47, 1] [(true, true)] ⟨rfl, trivial⟩ ?_
                exact Goes.ret [] (.bool false) fun w' hm hI => ⟨by rw [hst, hdrop, rlF, rl_bad1 (.inr (.inl hop))]; rfl, bel1 hob hm hI⟩
        | true =>
          have hop : opAt c x.1 = true := by rw [hop, hk]; rfl
          cases i with
          | zero =>
            refine Goes.open [0] ?_
            cases hb1 : decide (x.1 < 0) with
            | true =>
              refine Goes.run [0, 1] [] trivial ?_
              refine Goes.valA 2 (Instr.indexAt 32 (.slice (some ⟨b, o, none⟩) M cL) (.int .i64 ((0 : Nat) : Int))) (.pointer (some ⟨b, o + 0 * 2, none⟩)) (fun w' _ => idxLv b o M cL 0 (by omega) w') ?_
              refine Goes.run [3] [] trivial ?_
              refine Goes.valA 4 (Instr.loadAt 3 (.pointer (some ⟨b, o + 0 * 2, none⟩))) (.int .i64 x.1) (fun w' hm => load1 Tryz.isAgg3 (Cel.same x1 hob (hm.get 0))) ?_
              refine Goes.run [5] [] trivial ?_
              refine Goes.slot 53 (.bool true) (u := .bool (decide (x.1 < 0))) (congrArg _ (hb1)) ?_
              refine Goes.run [6, 7, 8, 9, 10, 11, 12, 13, 14, 15, 16, 17, 18, 19, 20, 21, 22, 23, 24, 25, 26, 27, 28, 29, 30, 31, 32, 33, 34, 35, 36, 37, 38, 39, 40, 41, 42, 43, 44, 45, 46, 47, 1] [(true, true)] ⟨rfl, trivial⟩ ?_
              exact Goes.ret [] (.bool false) fun w' hm hI => ⟨by rw [hst, hdrop, rlF, rl_bad1 (.inl (by show x.1 ≤ -1; have := of_decide_eq_true hb1; omega))]; rfl, bel1 hob hm hI⟩
            | false =>
              cases hb4 : decide (x.2 < -1000000000000000) with
              | true =>
                refine Goes.run [0, 1] [] trivial ?_
                refine Goes.valA 2 (Instr.indexAt 32 (.slice (some ⟨b, o, none⟩) M cL) (.int .i64 ((0 : Nat) : Int))) (.pointer (some ⟨b, o + 0 * 2, none⟩)) (fun w' _ => idxLv b o M cL 0 (by omega) w') ?_
                refine Goes.run [3] [] trivial ?_
                refine Goes.valA 4 (Instr.loadAt 3 (.pointer (some ⟨b, o + 0 * 2, none⟩))) (.int .i64 x.1) (fun w' hm => load1 Tryz.isAgg3 (Cel.same x1 hob (hm.get 0))) ?_
                refine Goes.run [5] [] trivial ?_
                refine Goes.slot 53 (.bool false) (u := .bool (decide (x.1 < 0))) (congrArg _ (hb1)) ?_
                refine Goes.run [6, 7, 8] [] trivial ?_
                refine Goes.slot 56 (.bool false) (u := .bool (decide (((0 : Nat) : Int) > 0))) (congrArg _ (rfl)) ?_
                refine Goes.run [9, 10, 11, 12, 13, 14, 15, 16, 17, 18, 19, 20, 21, 22, 23, 24, 25, 26, 27, 28, 29, 30, 31, 32, 33, 34] [] trivial ?_
                refine Goes.valA 35 (Instr.indexAt 32 (.slice (some ⟨b, o, none⟩) M cL) (.int .i64 ((0 : Nat) : Int))) (.pointer (some ⟨b, o + 0 * 2, none⟩)) (fun w' _ => idxLv b o M cL 0 (by omega) w') ?_
                refine Goes.run [36] [] trivial ?_
                refine Goes.valA 37 (Instr.loadAt 2 (.pointer (some ⟨b, o + 0 * 2 + 1, none⟩))) (.int .i64 x.2) (fun w' hm => load1 Tryz.isAgg2 (Cel.same x2 hob (hm.get 0))) ?_
                refine Goes.run [38] [] trivial ?_
                refine Goes.slot 86 (.bool true) (u := .bool (decide (x.2 < -1000000000000000))) (congrArg _ (hb4)) ?_
                refine Goes.run [39, 40, 41, 42, 43, 44, 45, 46, 47, 1] [(true, true)] ⟨rfl, trivial⟩ ?_
                exact Goes.ret [] (.bool false) fun w' hm hI => ⟨by rw [hst, hdrop, rlF, rl_bad1 (.inr (.inr (.inl (of_decide_eq_true hb4))))]; rfl, bel1 hob hm hI⟩
              | false =>
                cases hb5 : decide (x.2 > 1000000000000000) with
                | true =>
                  refine Goes.run [0, 1] [] trivial ?_
                  refine Goes.valA 2 (Instr.indexAt 32 (.slice (some ⟨b, o, none⟩) M cL) (.int .i64 ((0 : Nat) : Int))) (.pointer (some ⟨b, o + 0 * 2, none⟩)) (fun w' _ => idxLv b o M cL 0 (by omega) w') ?_
                  refine Goes.run [3] [] trivial ?_
                  refine Goes.valA 4 (Instr.loadAt 3 (.pointer (some ⟨b, o + 0 * 2, none⟩))) (.int .i64 x.1) (fun w' hm => load1 Tryz.isAgg3 (Cel.same x1 hob (hm.get 0))) ?_
                  refine Goes.run [5] [] trivial ?_
                  refine Goes.slot 53 (.bool false) (u := .bool (decide (x.1 < 0))) (congrArg _ (hb1)) ?_
                  refine Goes.run [6, 7, 8] [] trivial ?_
                  refine Goes.slot 56 (.bool false) (u := .bool (decide (((0 : Nat) : Int) > 0))) (congrArg _ (rfl)) ?_
                  refine Goes.run [9, 10, 11, 12, 13, 14, 15, 16, 17, 18, 19, 20, 21, 22, 23, 24, 25, 26, 27, 28, 29, 30, 31, 32, 33, 34] [] trivial ?_
                  refine Goes.valA 35 (Instr.indexAt 32 (.slice (some ⟨b, o, none⟩) M cL) (.int .i64 ((0 : Nat) : Int))) (.pointer (some ⟨b, o + 0 * 2, none⟩)) (fun w' _ => idxLv b o M cL 0 (by omega) w') ?_
                  refine Goes.run [36] [] trivial ?_
                  refine Goes.valA 37 (Instr.loadAt 2 (.pointer (some ⟨b, o + 0 * 2 + 1, none⟩))) (.int .i64 x.2) (fun w' hm => load1 Tryz.isAgg2 (Cel.same x2 hob (hm.get 0))) ?_
                  refine Goes.run [38] [] trivial ?_
                  refine Goes.slot 86 (.bool false) (u := .bool (decide (x.2 < -1000000000000000))) (congrArg _ (hb4)) ?_
                  refine Goes.run [39, 40, 41, 42] [] trivial ?_
                  refine Goes.valA 43 (Instr.indexAt 32 (.slice (some ⟨b, o, none⟩) M cL) (.int .i64 ((0 : Nat) : Int))) (.pointer (some ⟨b, o + 0 * 2, none⟩)) (fun w' _ => idxLv b o M cL 0 (by omega) w') ?_
                  refine Goes.run [44] [] trivial ?_
                  refine Goes.valA 45 (Instr.loadAt 2 (.pointer (some ⟨b, o + 0 * 2 + 1, none⟩))) (.int .i64 x.2) (fun w' hm => load1 Tryz.isAgg2 (Cel.same x2 hob (hm.get 0))) ?_
                  refine Goes.run [46] [] trivial ?_
                  refine Goes.slot 94 (.bool true) (u := .bool (decide (x.2 > 1000000000000000))) (congrArg _ (hb5)) ?_
                  refine Goes.run [47, 1] [(true, true)] ⟨rfl, trivial⟩ ?_
                  exact Goes.ret [] (.bool false) fun w' hm hI => ⟨by rw [hst, hdrop, rlF, rl_bad1 (.inr (.inr (.inr (of_decide_eq_true hb5))))]; rfl, bel1 hob hm hI⟩
                | false =>
                  refine Goes.run [0, 1] [] trivial ?_
                  refine Goes.valA 2 (Instr.indexAt 32 (.slice (some ⟨b, o, none⟩) M cL) (.int .i64 ((0 : Nat) : Int))) (.pointer (some ⟨b, o + 0 * 2, none⟩)) (fun w' _ => idxLv b o M cL 0 (by omega) w') ?_
                  refine Goes.run [3] [] trivial ?_
                  refine Goes.valA 4 (Instr.loadAt 3 (.pointer (some ⟨b, o + 0 * 2, none⟩))) (.int .i64 x.1) (fun w' hm => load1 Tryz.isAgg3 (Cel.same x1 hob (hm.get 0))) ?_
                  refine Goes.run [5] [] trivial ?_
                  refine Goes.slot 53 (.bool false) (u := .bool (decide (x.1 < 0))) (congrArg _ (hb1)) ?_
                  refine Goes.run [6, 7, 8] [] trivial ?_
                  refine Goes.slot 56 (.bool false) (u := .bool (decide (((0 : Nat) : Int) > 0))) (congrArg _ (rfl)) ?_
                  refine Goes.run [9, 10, 11, 12, 13, 14, 15, 16, 17, 18, 19, 20, 21, 22, 23, 24, 25, 26, 27, 28, 29, 30, 31, 32, 33, 34] [] trivial ?_
                  refine Goes.valA 35 (Instr.indexAt 32 (.slice (some ⟨b, o, none⟩) M cL) (.int .i64 ((0 : Nat) : Int))) (.pointer (some ⟨b, o + 0 * 2, none⟩)) (fun w' _ => idxLv b o M cL 0 (by omega) w') ?_
                  refine Goes.run [36] [] trivial ?_
                  refine Goes.valA 37 (Instr.loadAt 2 (.pointer (some ⟨b, o + 0 * 2 + 1, none⟩))) (.int .i64 x.2) (fun w' hm => load1 Tryz.isAgg2 (Cel.same x2 hob (hm.get 0))) ?_
                  refine Goes.run [38] [] trivial ?_
                  refine Goes.slot 86 (.bool false) (u := .bool (decide (x.2 < -1000000000000000))) (congrArg _ (hb4)) ?_
                  refine Goes.run [39, 40, 41, 42] [] trivial ?_
                  refine Goes.valA 43 (Instr.indexAt 32 (.slice (some ⟨b, o, none⟩) M cL) (.int .i64 ((0 : Nat) : Int))) (.pointer (some ⟨b, o + 0 * 2, none⟩)) (fun w' _ => idxLv b o M cL 0 (by omega) w') ?_
                  refine Goes.run [44] [] trivial ?_
                  refine Goes.valA 45 (Instr.loadAt 2 (.pointer (some ⟨b, o + 0 * 2 + 1, none⟩))) (.int .i64 x.2) (fun w' hm => load1 Tryz.isAgg2 (Cel.same x2 hob (hm.get 0))) ?_
                  refine Goes.run [46] [] trivial ?_
                  refine Goes.slot 94 (.bool false) (u := .bool (decide (x.2 > 1000000000000000))) (congrArg _ (hb5)) ?_
                  refine Goes.run [47, 0] [(false, false)] ⟨rfl, trivial⟩ ?_
                  refine Goes.slot 5 (.int .i64 (0 + 1 : Nat)) (u := .int .i64 (IntKind.i64.wrap (((0 : Nat) : Int) + 1))) (congrArg _ (wrap_nat (by omega))) ?_
                  have hgood := rl_good1 (c := c) (x := x) (last := lstD l 0) (by show (-1 : Int) < x.1; have := of_decide_eq_false hb1; omega) hop (of_decide_eq_false hb4) (of_decide_eq_false hb5)
                  refine Goes.keep 2 ?_
                  exact back (0 + 1) _ ⟨by omega, by rw [hst, hdrop, rlF, hgood, Bool.true_and]; rw [show lstD l (0 + 1) = x.1 by simp [lstD, hx]]⟩ (by omega) (by kernel_rfl) (by kernel_rfl) (by kernel_rfl)
          | succ j =>
            obtain ⟨y, hy⟩ : ∃ y, l[j]? = some y := ⟨l[j]'(by omega), by simp⟩
            obtain ⟨b'', o'', e'', -, y1, -⟩ := hlv j y hy
            cases e''
            have hlast : lstD l (j + 1) = y.1 := by simp [lstD, hy]
            refine Goes.open [0] ?_
            cases hb1 : decide (x.1 < 0) with
            | true =>
              refine Goes.run [0, 1] [] trivial ?_
              refine Goes.valA 2 (Instr.indexAt 32 (.slice (some ⟨b, o, none⟩) M cL) (.int .i64 ((j + 1 : Nat) : Int))) (.pointer (some ⟨b, o + (j + 1) * 2, none⟩)) (fun w' _ => idxLv b o M cL (j + 1) (by omega) w') ?_
              refine Goes.run [3] [] trivial ?_
              refine Goes.valA 4 (Instr.loadAt 3 (.pointer (some ⟨b, o + (j + 1) * 2, none⟩))) (.int .i64 x.1) (fun w' hm => load1 Tryz.isAgg3 (Cel.same x1 hob (hm.get 0))) ?_
              refine Goes.run [5] [] trivial ?_
              refine Goes.slot 53 (.bool true) (u := .bool (decide (x.1 < 0))) (congrArg _ (hb1)) ?_
              refine Goes.run [6, 7, 8, 9, 10, 11, 12, 13, 14, 15, 16, 17, 18, 19, 20, 21, 22, 23, 24, 25, 26, 27, 28, 29, 30, 31, 32, 33, 34, 35, 36, 37, 38, 39, 40, 41, 42, 43, 44, 45, 46, 47, 1] [(true, true)] ⟨rfl, trivial⟩ ?_
              exact Goes.ret [] (.bool false) fun w' hm hI => ⟨by rw [hst, hdrop, rlF, rl_bad1 (.inr (.inl (by unfold opAt; rw [term_out (of_decide_eq_true hb1)])))]; rfl, bel1 hob hm hI⟩
            | false =>
              cases hb3 : decide (y.1 ≥ x.1) with
              | true =>
                refine Goes.run [0, 1] [] trivial ?_
                refine Goes.valA 2 (Instr.indexAt 32 (.slice (some ⟨b, o, none⟩) M cL) (.int .i64 ((j + 1 : Nat) : Int))) (.pointer (some ⟨b, o + (j + 1) * 2, none⟩)) (fun w' _ => idxLv b o M cL (j + 1) (by omega) w') ?_
                refine Goes.run [3] [] trivial ?_
                refine Goes.valA 4 (Instr.loadAt 3 (.pointer (some ⟨b, o + (j + 1) * 2, none⟩))) (.int .i64 x.1) (fun w' hm => load1 Tryz.isAgg3 (Cel.same x1 hob (hm.get 0))) ?_
                refine Goes.run [5] [] trivial ?_
                refine Goes.slot 53 (.bool false) (u := .bool (decide (x.1 < 0))) (congrArg _ (hb1)) ?_
                refine Goes.run [6, 7, 8] [] trivial ?_
                refine Goes.slot 56 (.bool true) (u := .bool (decide (((j + 1 : Nat) : Int) > 0))) (congrArg _ (decide_eq_true (by omega))) ?_
                refine Goes.run [9, 10, 11, 12] [] trivial ?_
                refine Goes.slot 60 (.int .i64 (j : Int)) (u := .int .i64 (IntKind.i64.wrap (((j + 1 : Nat) : Int) - 1))) (congrArg _ (by rw [IntWalk.i64_in _ ⟨by omega, by omega⟩]; omega)) ?_
                refine Goes.valA 13 (Instr.indexAt 32 (.slice (some ⟨b, o, none⟩) M cL) (.int .i64 (j : Int))) (.pointer (some ⟨b, o + j * 2, none⟩)) (fun w' _ => idxLv b o M cL j (by omega) w') ?_
                refine Goes.run [14] [] trivial ?_
                refine Goes.valA 15 (Instr.loadAt 3 (.pointer (some ⟨b, o + j * 2, none⟩))) (.int .i64 y.1) (fun w' hm => load1 Tryz.isAgg3 (Cel.same y1 hob (hm.get 0))) ?_
                refine Goes.run [16, 17] [] trivial ?_
                refine Goes.valA 18 (Instr.indexAt 32 (.slice (some ⟨b, o, none⟩) M cL) (.int .i64 ((j + 1 : Nat) : Int))) (.pointer (some ⟨b, o + (j + 1) * 2, none⟩)) (fun w' _ => idxLv b o M cL (j + 1) (by omega) w') ?_
                refine Goes.run [19] [] trivial ?_
                refine Goes.valA 20 (Instr.loadAt 3 (.pointer (some ⟨b, o + (j + 1) * 2, none⟩))) (.int .i64 x.1) (fun w' hm => load1 Tryz.isAgg3 (Cel.same x1 hob (hm.get 0))) ?_
                refine Goes.run [21] [] trivial ?_
                refine Goes.slot 69 (.bool true) (u := .bool (decide (y.1 ≥ x.1))) (congrArg _ (hb3)) ?_
                refine Goes.run [22, 23, 24, 25, 26, 27, 28, 29, 30, 31, 32, 33, 34, 35, 36, 37, 38, 39, 40, 41, 42, 43, 44, 45, 46, 47, 1] [(true, true)] ⟨rfl, trivial⟩ ?_
                exact Goes.ret [] (.bool false) fun w' hm hI => ⟨by rw [hst, hdrop, rlF, rl_bad1 (.inl (by rw [hlast]; have := of_decide_eq_true hb3; omega))]; rfl, bel1 hob hm hI⟩
              | false =>
                cases hb4 : decide (x.2 < -1000000000000000) with
                | true =>
                  refine Goes.run [0, 1] [] trivial ?_
                  refine Goes.valA 2 (Instr.indexAt 32 (.slice (some ⟨b, o, none⟩) M cL) (.int .i64 ((j + 1 : Nat) : Int))) (.pointer (some ⟨b, o + (j + 1) * 2, none⟩)) (fun w' _ => idxLv b o M cL (j + 1) (by omega) w') ?_
                  refine Goes.run [3] [] trivial ?_
                  refine Goes.valA 4 (Instr.loadAt 3 (.pointer (some ⟨b, o + (j + 1) * 2, none⟩))) (.int .i64 x.1) (fun w' hm => load1 Tryz.isAgg3 (Cel.same x1 hob (hm.get 0))) ?_
                  refine Goes.run [5] [] trivial ?_
                  refine Goes.slot 53 (.bool false) (u := .bool (decide (x.1 < 0))) (congrArg _ (hb1)) ?_
                  refine Goes.run [6, 7, 8] [] trivial ?_
                  refine Goes.slot 56 (.bool true) (u := .bool (decide (((j + 1 : Nat) : Int) > 0))) (congrArg _ (decide_eq_true (by omega))) ?_
                  refine Goes.run [9, 10, 11, 12] [] trivial ?_
                  refine Goes.slot 60 (.int .i64 (j : Int)) (u := .int .i64 (IntKind.i64.wrap (((j + 1 : Nat) : Int) - 1))) (congrArg _ (by rw [IntWalk.i64_in _ ⟨by omega, by omega⟩]; omega)) ?_
                  refine Goes.valA 13 (Instr.indexAt 32 (.slice (some ⟨b, o, none⟩) M cL) (.int .i64 (j : Int))) (.pointer (some ⟨b, o + j * 2, none⟩)) (fun w' _ => idxLv b o M cL j (by omega) w') ?_
                  refine Goes.run [14] [] trivial ?_
                  refine Goes.valA 15 (Instr.loadAt 3 (.pointer (some ⟨b, o + j * 2, none⟩))) (.int .i64 y.1) (fun w' hm => load1 Tryz.isAgg3 (Cel.same y1 hob (hm.get 0))) ?_
                  refine Goes.run [16, 17] [] trivial ?_
                  refine Goes.valA 18 (Instr.indexAt 32 (.slice (some ⟨b, o, none⟩) M cL) (.int .i64 ((j + 1 : Nat) : Int))) (.pointer (some ⟨b, o + (j + 1) * 2, none⟩)) (fun w' _ => idxLv b o M cL (j + 1) (by omega) w') ?_
                  refine Goes.run [19] [] trivial ?_
                  refine Goes.valA 20 (Instr.loadAt 3 (.pointer (some ⟨b, o + (j + 1) * 2, none⟩))) (.int .i64 x.1) (fun w' hm => load1 Tryz.isAgg3 (Cel.same x1 hob (hm.get 0))) ?_
                  refine Goes.run [21] [] trivial ?_
                  refine Goes.slot 69 (.bool false) (u := .bool (decide (y.1 ≥ x.1))) (congrArg _ (hb3)) ?_
                  refine Goes.run [22, 23, 24, 25, 26, 27, 28, 29, 30, 31, 32, 33, 34] [] trivial ?_
                  refine Goes.valA 35 (Instr.indexAt 32 (.slice (some ⟨b, o, none⟩) M cL) (.int .i64 ((j + 1 : Nat) : Int))) (.pointer (some ⟨b, o + (j + 1) * 2, none⟩)) (fun w' _ => idxLv b o M cL (j + 1) (by omega) w') ?_
                  refine Goes.run [36] [] trivial ?_
                  refine Goes.valA 37 (Instr.loadAt 2 (.pointer (some ⟨b, o + (j + 1) * 2 + 1, none⟩))) (.int .i64 x.2) (fun w' hm => load1 Tryz.isAgg2 (Cel.same x2 hob (hm.get 0))) ?_
                  refine Goes.run [38] [] trivial ?_
                  refine Goes.slot 86 (.bool true) (u := .bool (decide (x.2 < -1000000000000000))) (congrArg _ (hb4)) ?_
                  refine Goes.run [39, 40, 41, 42, 43, 44, 45, 46, 47, 1] [(true, true)] ⟨rfl, trivial⟩ ?_
                  exact Goes.ret [] (.bool false) fun w' hm hI => ⟨by rw [hst, hdrop, rlF, rl_bad1 (.inr (.inr (.inl (of_decide_eq_true hb4))))]; rfl, bel1 hob hm hI⟩
                | false =>
                  cases hb5 : decide (x.2 > 1000000000000000) with
                  | true =>
                    refine Goes.run [0, 1] [] trivial ?_
                    refine Goes.valA 2 (Instr.indexAt 32 (.slice (some ⟨b, o, none⟩) M cL) (.int .i64 ((j + 1 : Nat) : Int))) (.pointer (some ⟨b, o + (j + 1) * 2, none⟩)) (fun w' _ => idxLv b o M cL (j + 1) (by omega) w') ?_
                    refine Goes.run [3] [] trivial ?_
                    refine Goes.valA 4 (Instr.loadAt 3 (.pointer (some ⟨b, o + (j + 1) * 2, none⟩))) (.int .i64 x.1) (fun w' hm => load1 Tryz.isAgg3 (Cel.same x1 hob (hm.get 0))) ?_
                    refine Goes.run [5] [] trivial ?_
                    refine Goes.slot 53 (.bool false) (u := .bool (decide (x.1 < 0))) (congrArg _ (hb1)) ?_
                    refine Goes.run [6, 7, 8] [] trivial ?_
                    refine Goes.slot 56 (.bool true) (u := .bool (decide (((j + 1 : Nat) : Int) > 0))) (congrArg _ (decide_eq_true (by omega))) ?_
                    refine Goes.run [9, 10, 11, 12] [] trivial ?_
                    refine Goes.slot 60 (.int .i64 (j : Int)) (u := .int .i64 (IntKind.i64.wrap (((j + 1 : Nat) : Int) - 1))) (congrArg _ (by rw [IntWalk.i64_in _ ⟨by omega, by omega⟩]; omega)) ?_
                    refine Goes.valA 13 (Instr.indexAt 32 (.slice (some ⟨b, o, none⟩) M cL) (.int .i64 (j : Int))) (.pointer (some ⟨b, o + j * 2, none⟩)) (fun w' _ => idxLv b o M cL j (by omega) w') ?_
                    refine Goes.run [14] [] trivial ?_
                    refine Goes.valA 15 (Instr.loadAt 3 (.pointer (some ⟨b, o + j * 2, none⟩))) (.int .i64 y.1) (fun w' hm => load1 Tryz.isAgg3 (Cel.same y1 hob (hm.get 0))) ?_
                    refine Goes.run [16, 17] [] trivial ?_
                    refine Goes.valA 18 (Instr.indexAt 32 (.slice (some ⟨b, o, none⟩) M cL) (.int .i64 ((j + 1 : Nat) : Int))) (.pointer (some ⟨b, o + (j + 1) * 2, none⟩)) (fun w' _ => idxLv b o M cL (j + 1) (by omega) w') ?_
                    refine Goes.run [19] [] trivial ?_
                    refine Goes.valA 20 (Instr.loadAt 3 (.pointer (some ⟨b, o + (j + 1) * 2, none⟩))) (.int .i64 x.1) (fun w' hm => load1 Tryz.isAgg3 (Cel.same x1 hob (hm.get 0))) ?_
                    refine Goes.run [21] [] trivial ?_
                    refine Goes.slot 69 (.bool false) (u := .bool (decide (y.1 ≥ x.1))) (congrArg _ (hb3)) ?_
                    refine Goes.run [22, 23, 24, 25, 26, 27, 28, 29, 30, 31, 32, 33, 34] [] trivial ?_
                    refine Goes.valA 35 (Instr.indexAt 32 (.slice (some ⟨b, o, none⟩) M cL) (.int .i64 ((j + 1 : Nat) : Int))) (.pointer (some ⟨b, o + (j + 1) * 2, none⟩)) (fun w' _ => idxLv b o M cL (j + 1) (by omega) w') ?_
                    refine Goes.run [36] [] trivial ?_
                    refine Goes.valA 37 (Instr.loadAt 2 (.pointer (some ⟨b, o + (j + 1) * 2 + 1, none⟩))) (.int .i64 x.2) (fun w' hm => load1 Tryz.isAgg2 (Cel.same x2 hob (hm.get 0))) ?_
                    refine Goes.run [38] [] trivial ?_
                    refine Goes.slot 86 (.bool false) (u := .bool (decide (x.2 < -1000000000000000))) (congrArg _ (hb4)) ?_
                    refine Goes.run [39, 40, 41, 42] [] trivial ?_
                    refine Goes.valA 43 (Instr.indexAt 32 (.slice (some ⟨b, o, none⟩) M cL) (.int .i64 ((j + 1 : Nat) : Int))) (.pointer (some ⟨b, o + (j + 1) * 2, none⟩)) (fun w' _ => idxLv b o M cL (j + 1) (by omega) w') ?_
                    refine Goes.run [44] [] trivial ?_
                    refine Goes.valA 45 (Instr.loadAt 2 (.pointer (some ⟨b, o + (j + 1) * 2 + 1, none⟩))) (.int .i64 x.2) (fun w' hm => load1 Tryz.isAgg2 (Cel.same x2 hob (hm.get 0))) ?_
                    refine Goes.run [46] [] trivial ?_
                    refine Goes.slot 94 (.bool true) (u := .bool (decide (x.2 > 1000000000000000))) (congrArg _ (hb5)) ?_
                    refine Goes.run [47, 1] [(true, true)] ⟨rfl, trivial⟩ ?_
                    exact Goes.ret [] (.bool false) fun w' hm hI => ⟨by rw [hst, hdrop, rlF, rl_bad1 (.inr (.inr (.inr (of_decide_eq_true hb5))))]; rfl, bel1 hob hm hI⟩
                  | false =>
                    refine Goes.run [0, 1] [] trivial ?_
                    refine Goes.valA 2 (Instr.indexAt 32 (.slice (some ⟨b, o, none⟩) M cL) (.int .i64 ((j + 1 : Nat) : Int))) (.pointer (some ⟨b, o + (j + 1) * 2, none⟩)) (fun w' _ => idxLv b o M cL (j + 1) (by omega) w') ?_
                    refine Goes.run [3] [] trivial ?_
                    refine Goes.valA 4 (Instr.loadAt 3 (.pointer (some ⟨b, o + (j + 1) * 2, none⟩))) (.int .i64 x.1) (fun w' hm => load1 Tryz.isAgg3 (Cel.same x1 hob (hm.get 0))) ?_
                    refine Goes.run [5] [] trivial ?_
                    refine Goes.slot 53 (.bool false) (u := .bool (decide (x.1 < 0))) (congrArg _ (hb1)) ?_
                    refine Goes.run [6, 7, 8] [] trivial ?_
                    refine Goes.slot 56 (.bool true) (u := .bool (decide (((j + 1 : Nat) : Int) > 0))) (congrArg _ (decide_eq_true (by omega))) ?_
                    refine Goes.run [9, 10, 11, 12] [] trivial ?_
                    refine Goes.slot 60 (.int .i64 (j : Int)) (u := .int .i64 (IntKind.i64.wrap (((j + 1 : Nat) : Int) - 1))) (congrArg _ (by rw [IntWalk.i64_in _ ⟨by omega, by omega⟩]; omega)) ?_
                    refine Goes.valA 13 (Instr.indexAt 32 (.slice (some ⟨b, o, none⟩) M cL) (.int .i64 (j : Int))) (.pointer (some ⟨b, o + j * 2, none⟩)) (fun w' _ => idxLv b o M cL j (by omega) w') ?_
                    refine Goes.run [14] [] trivial ?_
                    refine Goes.valA 15 (Instr.loadAt 3 (.pointer (some ⟨b, o + j * 2, none⟩))) (.int .i64 y.1) (fun w' hm => load1 Tryz.isAgg3 (Cel.same y1 hob (hm.get 0))) ?_
                    refine Goes.run [16, 17] [] trivial ?_
                    refine Goes.valA 18 (Instr.indexAt 32 (.slice (some ⟨b, o, none⟩) M cL) (.int .i64 ((j + 1 : Nat) : Int))) (.pointer (some ⟨b, o + (j + 1) * 2, none⟩)) (fun w' _ => idxLv b o M cL (j + 1) (by omega) w') ?_
                    refine Goes.run [19] [] trivial ?_
                    refine Goes.valA 20 (Instr.loadAt 3 (.pointer (some ⟨b, o + (j + 1) * 2, none⟩))) (.int .i64 x.1) (fun w' hm => load1 Tryz.isAgg3 (Cel.same x1 hob (hm.get 0))) ?_
                    refine Goes.run [21] [] trivial ?_
                    refine Goes.slot 69 (.bool false) (u := .bool (decide (y.1 ≥ x.1))) (congrArg _ (hb3)) ?_
                    refine Goes.run [22, 23, 24, 25, 26, 27, 28, 29, 30, 31, 32, 33, 34] [] trivial ?_
                    refine Goes.valA 35 (Instr.indexAt 32 (.slice (some ⟨b, o, none⟩) M cL) (.int .i64 ((j + 1 : Nat) : Int))) (.pointer (some ⟨b, o + (j + 1) * 2, none⟩)) (fun w' _ => idxLv b o M cL (j + 1) (by omega) w') ?_
                    refine Goes.run [36] [] trivial ?_
                    refine Goes.valA 37 (Instr.loadAt 2 (.pointer (some ⟨b, o + (j + 1) * 2 + 1, none⟩))) (.int .i64 x.2) (fun w' hm => load1 Tryz.isAgg2 (Cel.same x2 hob (hm.get 0))) ?_
                    refine Goes.run [38] [] trivial ?_
                    refine Goes.slot 86 (.bool false) (u := .bool (decide (x.2 < -1000000000000000))) (congrArg _ (hb4)) ?_
                    refine Goes.run [39, 40, 41, 42] [] trivial ?_
                    refine Goes.valA 43 (Instr.indexAt 32 (.slice (some ⟨b, o, none⟩) M cL) (.int .i64 ((j + 1 : Nat) : Int))) (.pointer (some ⟨b, o + (j + 1) * 2, none⟩)) (fun w' _ => idxLv b o M cL (j + 1) (by omega) w') ?_
                    refine Goes.run [44] [] trivial ?_
                    refine Goes.valA 45 (Instr.loadAt 2 (.pointer (some ⟨b, o + (j + 1) * 2 + 1, none⟩))) (.int .i64 x.2) (fun w' hm => load1 Tryz.isAgg2 (Cel.same x2 hob (hm.get 0))) ?_
                    refine Goes.run [46] [] trivial ?_
                    refine Goes.slot 94 (.bool false) (u := .bool (decide (x.2 > 1000000000000000))) (congrArg _ (hb5)) ?_
                    refine Goes.run [47, 0] [(false, false)] ⟨rfl, trivial⟩ ?_
                    refine Goes.slot 5 (.int .i64 ((j + 1) + 1 : Nat)) (u := .int .i64 (IntKind.i64.wrap ((((j + 1) : Nat) : Int) + 1))) (congrArg _ (wrap_nat (by omega))) ?_
                    have hgood := rl_good1 (c := c) (x := x) (last := lstD l (j + 1)) (by rw [hlast]; have := of_decide_eq_false hb3; omega) hop (of_decide_eq_false hb4) (of_decide_eq_false hb5)
                    refine Goes.keep 2 ?_
                    exact back ((j + 1) + 1) _ ⟨by omega, by rw [hst, hdrop, rlF, hgood, Bool.true_and]; rw [show lstD l ((j + 1) + 1) = x.1 by simp [lstD, hx]]⟩ (by omega) (by kernel_rfl) (by kernel_rfl) (by kernel_rfl)
end Go.Proofs.YtekgfdbeinacjaaGreatDoor
namespace Go.Proofs.YtekgfdbeinacjaaGreatDoor
open Go Go.RowKit

section
variable {P : Program} {F : Exit → Act → World → Prop} {Inv : World → Prop} {s : St}
/-- A block is made in a drawn region that reads other blocks besides. -/
theorem TookS.new1Y (i n1 : Nat) (js : List Nat) (ex : Mem) (L : List Nat) (hex : ∀ q ∈ ex, q.1 ∉ L) (hn1 : ∀ w, Inv w → n1 ≤ w.heap.size) (h : ∀ g, n1 ≤ g → Goes P F Inv (newSt P i g s)) (ha : anyM s = sub js s.mem ++ ex := by kernel_rfl) (h0 : ∀ g, (newA P i g s).map (fun st => sub js st.mem ++ ex) = some (anyM s) := by intro g; kernel_rfl) (hw : anyWant i s = true := by kernel_rfl) (hL : s.mem.ids = L := by kernel_rfl) : TookS P F Inv i s := by
  subst hL
  intro ops m0 n l k ht w h1 h2 h3 h4
  have hG := h w.heap.size (hn1 w h3.now)
  have hk := h0 w.heap.size
  unfold newSt at hG
  cases hq : newA P i w.heap.size s with
  | none => rw [hq] at hk; cases hk
  | some st =>
    rw [hq] at hG hk
    simp only [Option.getD_some] at hG
    simp only [Option.map_some, Option.some.injEq] at hk
    unfold newA at hq
    unfold anyWant at hw
    unfold anyM at hk ha
    rw [ht] at hw hk ha
    simp only at hw hk ha
    cases ho : ops[i]? with
    | none => rw [ho] at hw; simp at hw
    | some o =>
      have hoo : anyOp i s = some o := by unfold anyOp; rw [ht]; exact ho
      rw [ho] at hw
      simp only at hw
      rw [hoo] at hq
      simp only at hq
      unfold wpOp
      rw [ho]
      simp only [hw, if_true]
      unfold Oper.wp
      rw [evalL_eq]
      split at hq
      · rename_i v m d hs
        cases hq
        obtain ⟨w', D⟩ := srun_did P _ _ _ _ _ _ _ w hs (by simp) h1 h2 (by simp)
        have h9 := hG w'
        unfold putA at h9 hk
        rw [ht] at h9 hk
        simp only [ho] at h9 hk
        rw [D.run, Oper.upon_value, putL_eq]
        have hm' : Holds m0 w' := by
          rw [← hk]
          refine (sub_holds D.holds).cat (holds_in fun q hq => ?_)
          have hh : w.heap[q.1]? = some q.2 := in_holds h4 q (by rw [ha]; exact List.mem_append_right _ hq)
          exact (D.ch.block q.1 (lt_of_get hh) (hex q hq)).trans hh
        exact .inl ⟨hm', h9 D.holds D.nd (h3.ch D.ch D.new) hm'⟩
      · cases hq
/-- An operation over the known blocks, other blocks are read besides. -/
theorem TookS.runY (i j : Nat) (js : List Nat) (ex : Mem) (L : List Nat) (hex : ∀ q ∈ ex, q.1 ∉ L) (h : Goes P F Inv (oneSt P i j s)) (ha : anyM s = sub js s.mem ++ ex := by kernel_rfl) (hS : anyM s = sub js (oneSt P i j s).mem ++ ex := by kernel_rfl) (hw : anyWant i s = true := by kernel_rfl) (hN : ((oneA P i j s).map fun q => q.2.map (·.1)) = (oneA P i j s).map fun q => q.2.map (·.2) := by kernel_rfl) (hk : (oneA P i j s).isSome = true := by kernel_rfl) (hL : s.mem.ids = L := by kernel_rfl) : TookS P F Inv i s := by
  subst hL
  intro ops m0 n l k ht w h1 h2 h3 h40
  unfold oneSt at h hS
  cases hq : Go.Proofs.YtekgfdbeinacjaaGreatDoor.oneA P i j s with
  | none => rw [hq] at hk; cases hk
  | some q =>
    rw [hq] at h hN hS
    simp only [Option.map_some, Option.some.injEq] at h hN hS
    obtain ⟨st, on⟩ := q
    unfold Go.Proofs.YtekgfdbeinacjaaGreatDoor.oneA at hq
    unfold anyWant at hw
    unfold anyM at hS ha
    rw [ht] at hw hS ha
    simp only at hw hS ha
    cases ho : ops[i]? with
    | none => rw [ho] at hw; simp at hw
    | some o =>
      have hoo : anyOp i s = some o := by unfold anyOp; rw [ht]; exact ho
      rw [ho] at hw
      simp only at hw
      rw [hoo] at hq
      simp only at hq
      unfold wpOp
      rw [ho]
      simp only [hw, if_true]
      unfold Oper.wp
      rw [evalL_eq]
      have key : ∀ w', Ch s.mem.ids w w' → Holds ex w' := fun w' hc => holds_in fun q hq => by
        have hh : w.heap[q.1]? = some q.2 := in_holds h40 q (by rw [ha]; exact List.mem_append_right _ hq)
        exact (hc.block q.1 (lt_of_get hh) (hex q hq)).trans hh
      split at hq
      · rename_i v m on' d hs
        cases hq
        obtain ⟨w', D⟩ := srun_did P _ _ _ _ _ _ _ w hs (all_of_map hN) h1 h2 (by simp)
        have h9 := h w'
        unfold putA at h9 hS
        rw [ht] at h9 hS
        simp only [ho] at h9 hS
        rw [D.run, Oper.upon_value, putL_eq]
        have hm' : Holds m0 w' := by rw [hS]; exact (sub_holds D.holds).cat (key w' D.ch)
        exact .inl ⟨hm', h9 D.holds D.nd (h3.ch D.ch D.new) hm'⟩
      · rename_i m on' d hs
        cases hq
        obtain ⟨w', D⟩ := srun_did P _ _ _ _ _ _ _ w hs (all_of_map hN) h1 h2 (by simp)
        have h9 := h w'
        unfold putA at h9 hS
        rw [ht] at h9 hS
        simp only [ho] at h9 hS
        rw [D.run, Oper.upon_skip, putL_eq]
        have hm' : Holds m0 w' := by rw [hS]; exact (sub_holds D.holds).cat (key w' D.ch)
        exact .inl ⟨hm', h9 D.holds D.nd (h3.ch D.ch D.new) hm'⟩
      · cases hq
end
section
variable {P : Program} {F : Exit → Act → World → Prop} {s : St} {n0 g : Nat} {day : Int} {fv lv tv lv1 tv1 : Value} {ls1 : List (Int × Int)} {ts1 : List (List UInt8 × Int)} {w : World}
/-- A part of acquiring is called in a drawn region that reads elder blocks besides. -/
theorem Goes.callRQB (i : Nat) (f : FuncId) (args : Array Value) (u : Value) (ls2 : List (Int × Int)) (ts2 : List (List UInt8 × Int)) (loc : Mem) (hloc : Loc w loc) (m0 : Mem) (hg0 : n0 ≤ g) (hm0 : ∀ q ∈ m0, (∃ c e z, q.2 = .cells c e z ∧ ty4 e = false) ∨ q.1 < n0)
    (hr : ∀ w1, Holds s.mem w1 → AcI n0 g day w lv tv lv1 tv1 ls1 ts1 w1 → Calls P f args w1 (RQ n0 g day fv w1 lv1 tv1 u ls2 ts2))
    (h : ∀ lv2 tv2, Goes P F (AcI n0 g day w lv tv lv2 tv2 ls2 ts2) (putA i s u ((g, rO day fv lv2 tv2) :: loc)))
    (hM : anyM s = m0 := by kernel_rfl) (hmem : s.mem = (g, rO day fv lv1 tv1) :: loc := by kernel_rfl) (ha : askA i s = some (f, args) := by kernel_rfl) (hw : anyLone i s = true := by kernel_rfl) (hf : okf P f = true := by kernel_rfl) : Goes P F (AcI n0 g day w lv tv lv1 tv1 ls1 ts1) s :=
  Goes.callA i f args (fun ops m1 n l k ht w1 hm hn hI h0 => (hr w1 hm hI.now).mono fun e w2 ⟨lv2, tv2, he, hg2, hA⟩ => by
    obtain ⟨h1, h2, h3⟩ := rq_next hloc hmem hm hI.now hg2 hA
    refine ⟨u, _, _, he, holds_in fun q hq => ?_, h1, by rw [hmem] at hn; exact hn, h2, h lv2 tv2⟩
    have hq' : q ∈ m0 := by rw [← hM]; unfold anyM; rw [ht]; exact hq
    have hh := in_holds h0 q hq
    rcases hm0 q hq' with ⟨c, e, z, e1, e2⟩ | hlt
    · rw [e1] at hh ⊢
      exact h3 _ _ _ _ hh e2
    · exact (hA.1.block q.1 (lt_of_get hh) fun hmm => by have := oo_low hI.now.2.1 hI.now.2.2.1 hg0 q.1 hmm; omega).trans hh) ha hw hf
end
theorem neEmp (l : List UInt8) (i : Nat) (w : World) : (do eqGuard .neq 9 (.tmp i) (.const (strV [])) (strV l) (strV []); binOp .neq 9 (strV l) (strV []) : Sem Value).run Tryz.prog w = .ok (.bool (!decide (l = []))) w := by
  have : (eqGuard .neq 9 (.tmp i) (.const (strV [])) (strV l) (strV [])).run Tryz.prog w = .ok () w := by
    unfold eqGuard strV; go_simp
  simp only [Sem.run_bind, this, Result.andThen_ok, neqS l [] (!decide (l = [])) (by simp) w]
def stKof (b : Option Code) : List TI := match b with | some (.seq _ (.seq _ (.seq _ (.seq _ (.seq _ (.seq _ (.seq _ k))))))) => [.code k] | _ => []
noncomputable def stK : List TI := (rnS Tryz.prog 47 [] [] ⟨stKof Tryz.f13.body, [], []⟩).st.todo
/-- Terms of a right contract are in their bounds. -/
theorem term_bnd {c t : Co} {q : Int} (h : termP c q = some t) (hc : szC c ≤ 2000) : 0 ≤ q ∧ q + szC t ≤ 2000 ∧ szC t ≤ 2000 := by
  obtain ⟨h0, h1, -⟩ := term_in c q t h
  omega
set_option maxRecDepth 100000 in
set_option maxHeartbeats 8000000 in
seal rn rnN rnS Goes ans atEnd put0 put putM opened openedY putA0 putA oneSt st0 keep mkSt newSt in
theorem rstep_any {fs : Fs} {fv u vl : Value} {c : Co} {l : List (Int × Int)} {w : World} (day : Int) (lab : List UInt8) (which : Int) (hN : Nc w.heap.size w u c) (hLv : Sts w.heap.size w vl l) (hF : Fds w.heap.size w fv fs) (hl : ∀ f ∈ fs, f.1.length ≤ 9223372036854775807) (hlab : lab.length ≤ 9223372036854775807) : Calls Tryz.prog 13 #[u, vl, .int .i64 day, fv, chV lab which] w (LTQ day w (steR fs day lab which c l)) := by
  obtain ⟨op, k, t, a, N, cc, rfl⟩ := hN.cells
  obtain ⟨aF, NF, cF, rfl⟩ : ∃ aF NF cF, fv = .slice aF NF cF := by obtain ⟨x, y, e, -⟩ := hF; exact ⟨x, _, y, e⟩
  have hLv0 := hLv
  obtain ⟨aL, cL, rfl, hcL, hst⟩ := hLv0
  obtain ⟨NL, hNL⟩ : ∃ NL, l.length = NL := ⟨_, rfl⟩
  rw [hNL] at hcL hLv ⊢
  obtain ⟨E, hE⟩ : ∃ E, chkP c = E := ⟨_, rfl⟩
  have hV : steR fs day lab which c l = bif (E == 0 && (dayP day && rfP fs) && rcP lab which) && rlP c l then (stepP fs day lab which c l, 0) else (r0, 150) := by unfold steR; rw [hE]
  have bad : ∀ w', Below w.heap.size w w' → ((E == 0 && (dayP day && rfP fs) && rcP lab which) && rlP c l) = false → LTQ day w (steR fs day lab which c l) (.returned (.tuple #[.slice none 0 0, .slice none 0 0, .int .i64 150])) w' := fun w' hB h => ⟨.slice none 0 0, .slice none 0 0, by rw [hV, h]; rfl, by rw [hV, h]; exact Lvs.nil, by rw [hV, h]; exact Trs.nil, hB⟩
  refine Goes.begin Tryz.func13 [] (fun _ => True) Holds.nil (by simp [Mem.ids]) (fun _ _ => trivial) ?_
  refine Goes.run2 [] [] trivial fun g5 g9 => ?_
  refine Goes.call0 21 #[.slice aF NF cF] (.bool (rfP fs)) (fun w' _ hI => rfeedsR_any (hF.at (bel0 hI)) hl) ?_
  refine Goes.run [] [] trivial ?_
  refine Goes.call0 22 #[.int .i64 day] (.bool (dayP day)) (fun w' _ _ => rday_any day w') ?_
  refine Goes.run [1] [] trivial ?_
  refine Goes.call0 24 #[chV lab which] (.bool (rcP lab which)) (fun w' _ _ => rchoice_any lab which w' hlab) ?_
  refine Goes.run [0] [] trivial ?_
  refine Goes.call0 14 #[cv op k t (.slice a N cc)] (.int .i64 E) (fun w' _ hI => by have := rcheck_any (hN.at (bel0 hI)); rwa [hE] at this) ?_
  cases h0 : (E == 0) with
  | false =>
    refine Goes.run [1, 1, 1, 1] [(true, true), (true, true), (true, true), (E != 0, true)] ⟨rfl, rfl, rfl, by rw [bne, h0]; rfl, trivial⟩ ?_
    exact Goes.ret [] (.tuple #[.slice none 0 0, .slice none 0 0, .int .i64 150]) fun w' hm hI => bad w' (bel0 hI) (by rw [h0]; rfl)
  | true =>
  cases hR : rfP fs with
  | false =>
    refine Goes.run [0, 1, 1, 1] [(true, true), (true, true), (true, true), (E != 0, false)] ⟨rfl, rfl, rfl, by rw [bne, h0]; rfl, trivial⟩ ?_
    exact Goes.ret [] (.tuple #[.slice none 0 0, .slice none 0 0, .int .i64 150]) fun w' hm hI => bad w' (bel0 hI) (by rw [h0, hR, Bool.and_false]; rfl)
  | true =>
  cases hD : dayP day with
  | false =>
    refine Goes.run [0, 0, 1, 1] [(true, true), (true, true), (false, false), (E != 0, false)] ⟨rfl, rfl, rfl, by rw [bne, h0]; rfl, trivial⟩ ?_
    exact Goes.ret [] (.tuple #[.slice none 0 0, .slice none 0 0, .int .i64 150]) fun w' hm hI => bad w' (bel0 hI) (by rw [h0, hR, hD]; rfl)
  | true =>
  cases hC : rcP lab which with
  | false =>
    refine Goes.run [0, 0, 0, 1] [(true, true), (false, false), (false, false), (E != 0, false)] ⟨rfl, rfl, rfl, by rw [bne, h0]; rfl, trivial⟩ ?_
    exact Goes.ret [] (.tuple #[.slice none 0 0, .slice none 0 0, .int .i64 150]) fun w' hm hI => bad w' (bel0 hI) (by rw [h0, hR, hD, hC]; rfl)
  | true =>
  obtain ⟨htyp, hszc, -⟩ := chk_typ (c := c) (by rw [hE]; exact h0)
  refine Goes.run [0, 0, 0, 0, 0] [(false, false), (false, false), (false, false), (E != 0, false)] ⟨rfl, rfl, rfl, by rw [bne, h0]; rfl, trivial⟩ ?_
  refine Goes.call0 25 #[cv op k t (.slice a N cc), .slice aL NL cL] (.bool (rlP c l)) (fun w' _ hI => rlives_any hszc (hN.at (bel0 hI)) (hLv.at' (bel0 hI))) ?_
  cases hrl : rlP c l with
  | false =>
    refine Goes.run [1] [(true, true)] ⟨rfl, trivial⟩ ?_
    exact Goes.ret [] (.tuple #[.slice none 0 0, .slice none 0 0, .int .i64 150]) fun w' hm hI => bad w' (bel0 hI) (by rw [hrl, Bool.and_false])
  | true =>
  have hV2 : steR fs day lab which c l = (stepP fs day lab which c l, 0) := by rw [hV, h0, hR, hD, hC, hrl]; rfl
  rw [hV2]
  obtain ⟨hll, hlx⟩ := rl_facts (by omega) hrl
  have hRd := rf_right hR
  refine Goes.upto 47 [0] [(false, false)] ⟨rfl, trivial⟩ ?_
  refine Goes.at (K := stK) (n := 125) (S := [(1, .slice aL NL cL), (2, .int .i64 day), (3, .slice aF NF cF), (5, .pointer (some ⟨g5, 0, none⟩)), (9, .pointer (some ⟨g9, 0, none⟩))]) (m := [(g5, cO op k t (.slice a N cc)), (g9, chO lab which)]) (fun J0 => ?_)
  refine Goes.run1 [] [] trivial fun gw => ?_
  refine Goes.rebase fun w3 hm3 hn3 hI3 => ?_
  have hB3 : Below w.heap.size w w3 := bel0 hI3
  have y5 : w3.heap[g5]? = some (cO op k t (.slice a N cc)) := hm3.get 0
  have y9 : w3.heap[g9]? = some (chO lab which) := hm3.get 1
  have yw : w3.heap[gw]? = some (rO day (.slice aF NF cF) (.slice none 0 0) (.slice none 0 0)) := hm3.get 2
  have f5 : w.heap.size ≤ g5 := fresh_of hI3 (g := g5) (ids_get (j := 0) (o := cO op k t (.slice a N cc)) (by kernel_rfl)) (by simp [Mem.ids])
  have f9 : w.heap.size ≤ g9 := fresh_of hI3 (g := g9) (ids_get (j := 1) (o := chO lab which) (by kernel_rfl)) (by simp [Mem.ids])
  have fw : w.heap.size ≤ gw := fresh_of hI3 (g := gw) (ids_get (j := 2) (o := rO day (.slice aF NF cF) (.slice none 0 0) (.slice none 0 0)) (by kernel_rfl)) (by simp [Mem.ids])
  have hnd : g5 ≠ g9 ∧ g5 ≠ gw ∧ g9 ≠ gw := by
    have hn : [g5, g9, gw].Nodup := nd_of (m' := [(g5, cO op k t (.slice a N cc)), (g9, chO lab which), (gw, rO day (.slice aF NF cF) (.slice none 0 0) (.slice none 0 0))]) hn3 (by kernel_rfl)
    simp only [List.nodup_cons, List.mem_cons, List.not_mem_nil, or_false, not_or] at hn
    exact ⟨hn.1.1, hn.1.2, hn.2.1⟩
  have hA3 : AcI w.heap.size gw day w (.slice none 0 0) (.slice none 0 0) (.slice none 0 0) (.slice none 0 0) [] [] w3 := ⟨⟨hB3.os, hB3.tape, hB3.output, hB3.size, fun i hi _ => hB3.block i hi⟩, Lvs.nil, Trs.nil, fun x hx => by simp [Value.ownBlock] at hx⟩
  refine ⟨AcI w.heap.size gw day w (.slice none 0 0) (.slice none 0 0) (.slice none 0 0) (.slice none 0 0) [] [], [(gw, rO day (.slice aF NF cF) (.slice none 0 0) (.slice none 0 0)), (g5, cO op k t (.slice a N cc)), (g9, chO lab which)], holds_in (by simp only [List.forall_mem_cons, List.not_mem_nil, false_implies, implies_true, and_true]; exact ⟨yw, y5, y9⟩), by simp [Mem.ids]; exact ⟨⟨fun e => hnd.2.1 e.symm, fun e => hnd.2.2 e.symm⟩, hnd.1⟩, hA3.stay ⟨_, _, _, yw, by decide, by decide⟩ (by simp only [Mem.ids, List.map_cons, List.map_nil, List.forall_mem_cons, List.not_mem_nil, false_implies, implies_true, and_true]; exact ⟨.inl trivial, .inr ⟨f5, _, _, _, y5, by decide⟩, .inr ⟨f9, _, _, _, y9, by decide⟩⟩), ?_⟩
  have hbel : ∀ {w' : World} {lv1 tv1 : Value} {ls1 : List (Int × Int)} {ts1 : List (List UInt8 × Int)}, AcI w.heap.size gw day w (.slice none 0 0) (.slice none 0 0) lv1 tv1 ls1 ts1 w' → Below w.heap.size w w' := fun h => hexA Lvs.nil Trs.nil fw (Nat.le_refl _) h
  refine Goes.loop (α := Nat × Value × Value) 125 (fun q => [(1, .slice aL NL cL), (2, .int .i64 day), (5, .pointer (some ⟨g5, 0, none⟩)), (9, .pointer (some ⟨g9, 0, none⟩)), (17, .pointer (some ⟨gw, 0, none⟩)), (18, .int .i64 q.1)]) (fun q => [(gw, rO day (.slice aF NF cF) q.2.1 q.2.2), (g5, cO op k t (.slice a N cc)), (g9, chO lab which)]) (fun q => AcI w.heap.size gw day w (.slice none 0 0) (.slice none 0 0) q.2.1 q.2.2 (stepP fs day lab which c (l.take q.1)).1 (stepP fs day lab which c (l.take q.1)).2) (fun q => q.1 ≤ NL) (fun q => NL - q.1) (0, .slice none 0 0, .slice none 0 0) (Nat.zero_le _) (fun w' h => by simpa [stepP, r0] using h) ?_
  rintro ⟨i, lv, tv⟩ J hi back
  simp only at hi back ⊢
  cases hlt : decide ((i : Int) < (NL : Int)) with
  | false =>
    obtain rfl : i = NL := by have := of_decide_eq_false hlt; omega
    refine Goes.run [0, 0] [(decide ((i : Int) < (i : Int)), false)] ⟨hlt, trivial⟩ ?_
    refine Goes.open [0] ?_
    refine Goes.run [0, 1, 2, 3, 0, 4, 5, 6, 7, 0, 8, 9, 10] [] trivial ?_
    refine Goes.ret [] (.tuple #[lv, tv, .int .i64 0]) fun w' hm hI => ?_
    have hA := hI.now
    rw [List.take_of_length_le (by omega)] at hA
    exact ⟨lv, tv, rfl, hA.2.1, hA.2.2.1, hbel hA⟩
  | true =>
    have hil : i < NL := by have := of_decide_eq_true hlt; omega
    obtain ⟨x, hx⟩ : ∃ x, l[i]? = some x := ⟨l[i]'(by omega), by simp⟩
    obtain ⟨hq0, t6, htt, hwt⟩ := hlx x (List.mem_of_getElem? hx)
    obtain ⟨dt, hdt⟩ := typ_term c (by rw [htyp]) htt
    have htt4 := w_con hdt hwt
    obtain ⟨hb0, hb1, hb2⟩ := term_bnd htt hszc
    obtain ⟨b, o, ob, rfl, hb, hob⟩ := sts_blk (Nat.le_refl _) hLv (by omega)
    obtain ⟨b', o', e', -, x1, x2⟩ := hst i x hx
    cases e'
    have hsn := step_snoc (fs := fs) (day := day) (lab := lab) (which := which) (c := c) x (l.take i)
    have hstx : stx fs day lab which c x = stepX fs day lab which t6 x.1 x.2 := by unfold stx; simp only [htt]
    rw [hstx, ← take_more hx] at hsn
    have hlen := step_len (fs := fs) (day := day) (lab := lab) (which := which) (c := c) (l.take i)
    have hbnd : ((((stepP fs day lab which c (l.take i)).1.length + (stepP fs day lab which c (l.take i)).2.length : Nat) : Int)) + szC t6 ≤ 10000000 := by
      have h1 : (((l.take i).length : Nat) : Int) ≤ 2000 := by rw [List.length_take]; omega
      have h2 : szC c * (((l.take i).length : Nat) : Int) ≤ 2000 * 2000 := Int.mul_le_mul hszc h1 (by omega) (by omega)
      omega
    have hxb : ∀ q ∈ [(b, ob)], q.1 ∉ [gw, g5, g9] := fun q hq => by
      rw [List.mem_singleton] at hq
      subst hq
      simp only [List.mem_cons, List.not_mem_nil, or_false, not_or]
      exact ⟨by omega, by omega, by omega⟩
    have hxc : ∀ g19, w.heap.size ≤ g19 → ∀ q ∈ [(b, ob)], q.1 ∉ [gw, g5, g9, g19] := fun g19 hg q hq => by
      rw [List.mem_singleton] at hq
      subst hq
      simp only [List.mem_cons, List.not_mem_nil, or_false, not_or]
      exact ⟨by omega, by omega, by omega, by omega⟩
    obtain ⟨LS, hLS⟩ : ∃ LS, (stepP fs day lab which c (l.take i)).1 = LS := ⟨_, rfl⟩
    obtain ⟨TS, hTS⟩ : ∃ TS, (stepP fs day lab which c (l.take i)).2 = TS := ⟨_, rfl⟩
    rw [hLS, hTS] at hbnd
    refine Goes.run [0, 1] [(decide ((i : Int) < (NL : Int)), true)] ⟨hlt, trivial⟩ ?_
    refine Goes.inv (Inv' := AcI w.heap.size gw day w (.slice none 0 0) (.slice none 0 0) lv tv LS TS) (fun w' h => by rw [← hLS, ← hTS]; exact h) ?_
    refine Goes.openY [1] [(b, ob)] (fun w' hI => holds1 (((hbel hI).block b hb).trans hob)) ?_
    refine Goes.run [0, 0, 1, 2] [] trivial ?_
    refine Goes.valA 3 (Instr.indexAt 32 (.slice (some ⟨b, o, none⟩) NL cL) (.int .i64 i)) (.pointer (some ⟨b, o + i * 2, none⟩)) (fun w' _ => idxLv b o NL cL i (by omega) w') ?_
    refine Goes.run [4] [] trivial ?_
    refine Goes.valA 5 (Instr.loadAt 3 (.pointer (some ⟨b, o + i * 2, none⟩))) (.int .i64 x.1) (fun w' hm => load1 Tryz.isAgg3 (Cel.same x1 hob (hm.get 1))) ?_
    cases t6 with
    | mk o6 k6 s6 kids6 =>
      refine Goes.two 6 10 (TookS.callM 6 26 #[cv op k t (.slice a N cc), .int .i64 x.1] fun w1 hm1 hn1 hI1 h01 => ?_) (TookS.new1Y 10 w.heap.size [1] [(b, ob)] [gw, g5, g9] hxb (fun w' h => h.1.size) fun g19 f19 => ?_)
      · have hB1 := hbel hI1.now
        refine (rterm_any c w.heap.size x.1 _ w1 hszc hB1.size (hN.later hB1)).mono fun e w2 hR6 => ?_
        obtain ⟨v6, he, hv1, -, hB2⟩ := hR6
        rw [htt] at he
        have hv2 := (hv1 _ htt).back hB1
        obtain ⟨a6, c6, rfl, -, -⟩ := hv2.open
        obtain ⟨N6, hN6⟩ : ∃ N6, kids6.length = N6 := ⟨_, rfl⟩
        rw [hN6] at hv2 he
        refine ⟨_, AcI w.heap.size gw day w (.slice none 0 0) (.slice none 0 0) lv tv LS TS, _, he, h01.bel hB2, hm1.bel hB2, hn1, hI1.bel hB2, ?_⟩
        refine Goes.run [7, 8, 9] [] trivial ?_
        refine Goes.lone1 10 (TookS.new1Y 10 w.heap.size [1] [(b, ob)] [gw, g5, g9] hxb (fun w' h => h.1.size) fun g19 f19 => ?_)
        refine Goes.lone1 11 (TookS.runY 11 3 [1] [(b, ob)] [gw, g5, g9, g19] (hxc g19 f19) ?_)
        refine Goes.run [12] [] trivial ?_
        have hloc : Loc w [(g5, cO op k t (.slice a N cc)), (g9, chO lab which), (g19, cO o6 k6 s6 (.slice a6 N6 c6))] := fun q hq => by
          simp only [List.mem_cons, List.not_mem_nil, or_false] at hq
          rcases hq with rfl | rfl | rfl
          · exact ⟨f5, _, _, _, rfl, by decide⟩
          · exact ⟨f9, _, _, _, rfl, by decide⟩
          · exact ⟨f19, _, _, _, rfl, by decide⟩
        cases ho6 : (o6 == 31) with
        | false =>
          refine Goes.run [3, 0, 0, 0, 0] [(false, false), (false, false), (false, false), (o6 == 31, false)] ⟨rfl, rfl, rfl, ho6, trivial⟩ ?_
          have hsx : stepX fs day lab which (.mk o6 k6 s6 kids6) x.1 x.2 = acq fs day (.mk o6 k6 s6 kids6) x.1 x.2 := by rw [stepX, ho6]; rfl
          refine Goes.openY [3] [(b, ob)] (fun w' hI => holds1 (((hbel hI).block b hb).trans hob)) ?_
          refine Goes.run [0, 1, 0, 2, 3] [] trivial ?_
          refine Goes.valA 4 (Instr.indexAt 32 (.slice (some ⟨b, o, none⟩) NL cL) (.int .i64 i)) (.pointer (some ⟨b, o + i * 2, none⟩)) (fun w' _ => idxLv b o NL cL i (by omega) w') ?_
          refine Goes.run [5] [] trivial ?_
          refine Goes.valA 6 (Instr.loadAt 3 (.pointer (some ⟨b, o + i * 2, none⟩))) (.int .i64 x.1) (fun w' hm => load1 Tryz.isAgg3 (Cel.same x1 hob (hm.get 1))) ?_
          refine Goes.run [7, 8] [] trivial ?_
          refine Goes.valA 9 (Instr.indexAt 32 (.slice (some ⟨b, o, none⟩) NL cL) (.int .i64 i)) (.pointer (some ⟨b, o + i * 2, none⟩)) (fun w' _ => idxLv b o NL cL i (by omega) w') ?_
          refine Goes.run [10] [] trivial ?_
          refine Goes.valA 11 (Instr.loadAt 2 (.pointer (some ⟨b, o + i * 2 + 1, none⟩))) (.int .i64 x.2) (fun w' hm => load1 Tryz.isAgg2 (Cel.same x2 hob (hm.get 1))) ?_
          refine Goes.callRQB 12 23 #[.pointer (some ⟨gw, 0, none⟩), cv o6 k6 s6 (.slice a6 N6 c6), .int .i64 x.1, .int .i64 x.2] (.tuple #[]) (LS ++ (acq fs day (.mk o6 k6 s6 kids6) x.1 x.2).1) (TS ++ (acq fs day (.mk o6 k6 s6 kids6) x.1 x.2).2) _ hloc [(g19, cO o6 k6 s6 (.slice a6 N6 c6)), (b, ob)] fw (fun q hq => by
            simp only [List.mem_cons, List.not_mem_nil, or_false] at hq
            rcases hq with rfl | rfl
            · exact .inl ⟨_, _, _, rfl, by decide⟩
            · exact .inr hb) (fun w1 hm1 hI1 => racquire_any (n0 := w.heap.size) hRd fw (.mk o6 k6 s6 kids6) _ x.1 x.2 _ lv tv LS TS w1 htt4 hb0 (by omega) hb2 (hv2.later (hbel hI1)) (hF.later (hbel hI1)) hI1.1.size hI1.2.1 hI1.2.2.1 (hm1.get 0) hbnd) fun lv2 tv2 => ?_
          refine Goes.run [] [] trivial ?_
          refine Goes.slot 18 (.int .i64 (i + 1 : Nat)) (u := .int .i64 (IntKind.i64.wrap ((i : Int) + 1))) (congrArg _ (wrap_nat (by omega))) ?_
          refine Goes.keep 3 ?_
          refine Goes.inv (Inv' := AcI w.heap.size gw day w (.slice none 0 0) (.slice none 0 0) lv2 tv2 (stepP fs day lab which c (l.take (i + 1))).1 (stepP fs day lab which c (l.take (i + 1))).2) (fun w' h => by rw [hsn, hsx]; simp only [R2.cat]; rw [hLS, hTS]; exact h) ?_
          exact back (i + 1, lv2, tv2) _ hil (by simp only; omega) (by kernel_rfl) (by kernel_rfl) (by kernel_rfl)
        | true =>
          refine Goes.upto 73 [3, 1, 2] [(o6 == 31, true)] ⟨ho6, trivial⟩ ?_
          refine Goes.val (do eqGuard .neq 9 (.tmp 72) (.const (strV [])) (strV lab) (strV []); binOp .neq 9 (strV lab) (strV [])) (.bool (!decide (lab = []))) (fun w' _ _ => neEmp lab 72 w') ?_
          cases h2 : decide (lab = []) with
          | true =>
            refine Goes.run [0, 0, 0] [(false, false), (false, false), (false, false)] ⟨rfl, rfl, rfl, trivial⟩ ?_
            have hsx : stepX fs day lab which (.mk o6 k6 s6 kids6) x.1 x.2 = acq fs day (.mk o6 k6 s6 kids6) x.1 x.2 := by rw [stepX, show decide (lab ≠ []) = false by simpa using h2, Bool.and_false, Bool.false_and, Bool.false_and]; rfl
            refine Goes.openY [3] [(b, ob)] (fun w' hI => holds1 (((hbel hI).block b hb).trans hob)) ?_
            refine Goes.run [0, 1, 0, 2, 3] [] trivial ?_
            refine Goes.valA 4 (Instr.indexAt 32 (.slice (some ⟨b, o, none⟩) NL cL) (.int .i64 i)) (.pointer (some ⟨b, o + i * 2, none⟩)) (fun w' _ => idxLv b o NL cL i (by omega) w') ?_
            refine Goes.run [5] [] trivial ?_
            refine Goes.valA 6 (Instr.loadAt 3 (.pointer (some ⟨b, o + i * 2, none⟩))) (.int .i64 x.1) (fun w' hm => load1 Tryz.isAgg3 (Cel.same x1 hob (hm.get 1))) ?_
            refine Goes.run [7, 8] [] trivial ?_
            refine Goes.valA 9 (Instr.indexAt 32 (.slice (some ⟨b, o, none⟩) NL cL) (.int .i64 i)) (.pointer (some ⟨b, o + i * 2, none⟩)) (fun w' _ => idxLv b o NL cL i (by omega) w') ?_
            refine Goes.run [10] [] trivial ?_
            refine Goes.valA 11 (Instr.loadAt 2 (.pointer (some ⟨b, o + i * 2 + 1, none⟩))) (.int .i64 x.2) (fun w' hm => load1 Tryz.isAgg2 (Cel.same x2 hob (hm.get 1))) ?_
            refine Goes.callRQB 12 23 #[.pointer (some ⟨gw, 0, none⟩), cv o6 k6 s6 (.slice a6 N6 c6), .int .i64 x.1, .int .i64 x.2] (.tuple #[]) (LS ++ (acq fs day (.mk o6 k6 s6 kids6) x.1 x.2).1) (TS ++ (acq fs day (.mk o6 k6 s6 kids6) x.1 x.2).2) _ hloc [(g19, cO o6 k6 s6 (.slice a6 N6 c6)), (b, ob)] fw (fun q hq => by
              simp only [List.mem_cons, List.not_mem_nil, or_false] at hq
              rcases hq with rfl | rfl
              · exact .inl ⟨_, _, _, rfl, by decide⟩
              · exact .inr hb) (fun w1 hm1 hI1 => racquire_any (n0 := w.heap.size) hRd fw (.mk o6 k6 s6 kids6) _ x.1 x.2 _ lv tv LS TS w1 htt4 hb0 (by omega) hb2 (hv2.later (hbel hI1)) (hF.later (hbel hI1)) hI1.1.size hI1.2.1 hI1.2.2.1 (hm1.get 0) hbnd) fun lv2 tv2 => ?_
            refine Goes.run [] [] trivial ?_
            refine Goes.slot 18 (.int .i64 (i + 1 : Nat)) (u := .int .i64 (IntKind.i64.wrap ((i : Int) + 1))) (congrArg _ (wrap_nat (by omega))) ?_
            refine Goes.keep 3 ?_
            refine Goes.inv (Inv' := AcI w.heap.size gw day w (.slice none 0 0) (.slice none 0 0) lv2 tv2 (stepP fs day lab which c (l.take (i + 1))).1 (stepP fs day lab which c (l.take (i + 1))).2) (fun w' h => by rw [hsn, hsx]; simp only [R2.cat]; rw [hLS, hTS]; exact h) ?_
            exact back (i + 1, lv2, tv2) _ hil (by simp only; omega) (by kernel_rfl) (by kernel_rfl) (by kernel_rfl)
          | false =>
            refine Goes.upto 80 [1, 3, 2] [(true, true)] ⟨rfl, trivial⟩ ?_
            refine Goes.val (do eqGuard .eql 9 (.tmp 77) (.tmp 79) (strV s6) (strV lab); binOp .eql 9 (strV s6) (strV lab)) (.bool (decide (s6 = lab))) (fun w' _ _ => eqT (.tmp 77) (.tmp 79) s6 lab rfl w') ?_
            cases h3 : decide (s6 = lab) with
            | false =>
              refine Goes.run [0, 0] [(false, false), (false, false)] ⟨rfl, rfl, trivial⟩ ?_
              have hsx : stepX fs day lab which (.mk o6 k6 s6 kids6) x.1 x.2 = acq fs day (.mk o6 k6 s6 kids6) x.1 x.2 := by rw [stepX, h3, Bool.and_false, Bool.false_and]; rfl
              refine Goes.openY [3] [(b, ob)] (fun w' hI => holds1 (((hbel hI).block b hb).trans hob)) ?_
              refine Goes.run [0, 1, 0, 2, 3] [] trivial ?_
              refine Goes.valA 4 (Instr.indexAt 32 (.slice (some ⟨b, o, none⟩) NL cL) (.int .i64 i)) (.pointer (some ⟨b, o + i * 2, none⟩)) (fun w' _ => idxLv b o NL cL i (by omega) w') ?_
              refine Goes.run [5] [] trivial ?_
              refine Goes.valA 6 (Instr.loadAt 3 (.pointer (some ⟨b, o + i * 2, none⟩))) (.int .i64 x.1) (fun w' hm => load1 Tryz.isAgg3 (Cel.same x1 hob (hm.get 1))) ?_
              refine Goes.run [7, 8] [] trivial ?_
              refine Goes.valA 9 (Instr.indexAt 32 (.slice (some ⟨b, o, none⟩) NL cL) (.int .i64 i)) (.pointer (some ⟨b, o + i * 2, none⟩)) (fun w' _ => idxLv b o NL cL i (by omega) w') ?_
              refine Goes.run [10] [] trivial ?_
              refine Goes.valA 11 (Instr.loadAt 2 (.pointer (some ⟨b, o + i * 2 + 1, none⟩))) (.int .i64 x.2) (fun w' hm => load1 Tryz.isAgg2 (Cel.same x2 hob (hm.get 1))) ?_
              refine Goes.callRQB 12 23 #[.pointer (some ⟨gw, 0, none⟩), cv o6 k6 s6 (.slice a6 N6 c6), .int .i64 x.1, .int .i64 x.2] (.tuple #[]) (LS ++ (acq fs day (.mk o6 k6 s6 kids6) x.1 x.2).1) (TS ++ (acq fs day (.mk o6 k6 s6 kids6) x.1 x.2).2) _ hloc [(g19, cO o6 k6 s6 (.slice a6 N6 c6)), (b, ob)] fw (fun q hq => by
                simp only [List.mem_cons, List.not_mem_nil, or_false] at hq
                rcases hq with rfl | rfl
                · exact .inl ⟨_, _, _, rfl, by decide⟩
                · exact .inr hb) (fun w1 hm1 hI1 => racquire_any (n0 := w.heap.size) hRd fw (.mk o6 k6 s6 kids6) _ x.1 x.2 _ lv tv LS TS w1 htt4 hb0 (by omega) hb2 (hv2.later (hbel hI1)) (hF.later (hbel hI1)) hI1.1.size hI1.2.1 hI1.2.2.1 (hm1.get 0) hbnd) fun lv2 tv2 => ?_
              refine Goes.run [] [] trivial ?_
              refine Goes.slot 18 (.int .i64 (i + 1 : Nat)) (u := .int .i64 (IntKind.i64.wrap ((i : Int) + 1))) (congrArg _ (wrap_nat (by omega))) ?_
              refine Goes.keep 3 ?_
              refine Goes.inv (Inv' := AcI w.heap.size gw day w (.slice none 0 0) (.slice none 0 0) lv2 tv2 (stepP fs day lab which c (l.take (i + 1))).1 (stepP fs day lab which c (l.take (i + 1))).2) (fun w' h => by rw [hsn, hsx]; simp only [R2.cat]; rw [hLS, hTS]; exact h) ?_
              exact back (i + 1, lv2, tv2) _ hil (by simp only; omega) (by kernel_rfl) (by kernel_rfl) (by kernel_rfl)
            | true =>
              refine Goes.upto 87 [1, 3] [(true, true)] ⟨rfl, trivial⟩ ?_
              cases h4 : decide (day ≤ k6) with
              | false =>
                refine Goes.slot 86 (.bool false) (u := .bool (decide (day ≤ k6))) (congrArg _ h4) ?_
                refine Goes.run [0] [(false, false)] ⟨rfl, trivial⟩ ?_
                have hsx : stepX fs day lab which (.mk o6 k6 s6 kids6) x.1 x.2 = acq fs day (.mk o6 k6 s6 kids6) x.1 x.2 := by rw [stepX, h4, Bool.and_false]; rfl
                refine Goes.openY [3] [(b, ob)] (fun w' hI => holds1 (((hbel hI).block b hb).trans hob)) ?_
                refine Goes.run [0, 1, 0, 2, 3] [] trivial ?_
                refine Goes.valA 4 (Instr.indexAt 32 (.slice (some ⟨b, o, none⟩) NL cL) (.int .i64 i)) (.pointer (some ⟨b, o + i * 2, none⟩)) (fun w' _ => idxLv b o NL cL i (by omega) w') ?_
                refine Goes.run [5] [] trivial ?_
                refine Goes.valA 6 (Instr.loadAt 3 (.pointer (some ⟨b, o + i * 2, none⟩))) (.int .i64 x.1) (fun w' hm => load1 Tryz.isAgg3 (Cel.same x1 hob (hm.get 1))) ?_
                refine Goes.run [7, 8] [] trivial ?_
                refine Goes.valA 9 (Instr.indexAt 32 (.slice (some ⟨b, o, none⟩) NL cL) (.int .i64 i)) (.pointer (some ⟨b, o + i * 2, none⟩)) (fun w' _ => idxLv b o NL cL i (by omega) w') ?_
                refine Goes.run [10] [] trivial ?_
                refine Goes.valA 11 (Instr.loadAt 2 (.pointer (some ⟨b, o + i * 2 + 1, none⟩))) (.int .i64 x.2) (fun w' hm => load1 Tryz.isAgg2 (Cel.same x2 hob (hm.get 1))) ?_
                refine Goes.callRQB 12 23 #[.pointer (some ⟨gw, 0, none⟩), cv o6 k6 s6 (.slice a6 N6 c6), .int .i64 x.1, .int .i64 x.2] (.tuple #[]) (LS ++ (acq fs day (.mk o6 k6 s6 kids6) x.1 x.2).1) (TS ++ (acq fs day (.mk o6 k6 s6 kids6) x.1 x.2).2) _ hloc [(g19, cO o6 k6 s6 (.slice a6 N6 c6)), (b, ob)] fw (fun q hq => by
                  simp only [List.mem_cons, List.not_mem_nil, or_false] at hq
                  rcases hq with rfl | rfl
                  · exact .inl ⟨_, _, _, rfl, by decide⟩
                  · exact .inr hb) (fun w1 hm1 hI1 => racquire_any (n0 := w.heap.size) hRd fw (.mk o6 k6 s6 kids6) _ x.1 x.2 _ lv tv LS TS w1 htt4 hb0 (by omega) hb2 (hv2.later (hbel hI1)) (hF.later (hbel hI1)) hI1.1.size hI1.2.1 hI1.2.2.1 (hm1.get 0) hbnd) fun lv2 tv2 => ?_
                refine Goes.run [] [] trivial ?_
                refine Goes.slot 18 (.int .i64 (i + 1 : Nat)) (u := .int .i64 (IntKind.i64.wrap ((i : Int) + 1))) (congrArg _ (wrap_nat (by omega))) ?_
                refine Goes.keep 3 ?_
                refine Goes.inv (Inv' := AcI w.heap.size gw day w (.slice none 0 0) (.slice none 0 0) lv2 tv2 (stepP fs day lab which c (l.take (i + 1))).1 (stepP fs day lab which c (l.take (i + 1))).2) (fun w' h => by rw [hsn, hsx]; simp only [R2.cat]; rw [hLS, hTS]; exact h) ?_
                exact back (i + 1, lv2, tv2) _ hil (by simp only; omega) (by kernel_rfl) (by kernel_rfl) (by kernel_rfl)
              | true =>
                refine Goes.slot 86 (.bool true) (u := .bool (decide (day ≤ k6))) (congrArg _ h4) ?_
                refine Goes.run [1] [(true, true)] ⟨rfl, trivial⟩ ?_
                obtain ⟨c0, c1, rfl, ht0, ht1⟩ : ∃ c0 c1, kids6 = [c0, c1] ∧ typF (dt + 1) c0 = (4, true) ∧ typF (dt + 1) c1 = (4, true) := by
                  rcases con_cases htt4 with ⟨e, -⟩ | ⟨e, -⟩ | ⟨e, -⟩ | ⟨e, -⟩ | ⟨e, -⟩ | ⟨e, -⟩ | ⟨e, -⟩ | ⟨e, -⟩ | ⟨-, c0, c1, e2, a1, a2⟩
                  · rw [e] at ho6; cases ho6
                  · rw [e] at ho6; cases ho6
                  · rw [e] at ho6; cases ho6
                  · rw [e] at ho6; cases ho6
                  · rw [e] at ho6; cases ho6
                  · rw [e] at ho6; cases ho6
                  · rw [e] at ho6; cases ho6
                  · rw [e] at ho6; cases ho6
                  · exact ⟨c0, c1, e2, a1, a2⟩
                obtain ⟨j, hj, hj2⟩ : ∃ j : Nat, which - 1 = (j : Int) ∧ j < 2 := by
                  unfold rcP at hC
                  rw [h2, Bool.false_and, Bool.or_false] at hC
                  simp only [Bool.and_eq_true, Bool.or_eq_true, beq_iff_eq] at hC
                  exact ⟨(which - 1).toNat, by omega, by omega⟩
                obtain ⟨u6, hu6, htu⟩ : ∃ u6, [c0, c1][j]? = some u6 ∧ typF (dt + 1) u6 = (4, true) := by
                  match j, hj2 with
                  | 0, _ => exact ⟨c0, rfl, ht0⟩
                  | 1, _ => exact ⟨c1, rfl, ht1⟩
                have hszu := (szL_cut hu6).1
                have hszp := (szL_cut hu6).2
                have hszk : szC (.mk o6 k6 s6 [c0, c1]) = 1 + szL [c0, c1] := by rw [szC]
                have hsx : stepX fs day lab which (.mk o6 k6 s6 [c0, c1]) x.1 x.2 = brA (acqL fs day [c0, c1] (x.1 + 1)) j x.2 := by rw [stepX, ho6, show decide (lab ≠ []) = true by simpa using h2, h3, h4, hj]; rfl
                refine Goes.openY [2, 3] [(b, ob)] (fun w' hI => holds1 (((hbel hI).block b hb).trans hob)) ?_
                refine Goes.run [0, 1, 1, 2, 3] [] trivial ?_
                refine Goes.valA 4 (Instr.indexAt 32 (.slice (some ⟨b, o, none⟩) NL cL) (.int .i64 i)) (.pointer (some ⟨b, o + i * 2, none⟩)) (fun w' _ => idxLv b o NL cL i (by omega) w') ?_
                refine Goes.run [5] [] trivial ?_
                refine Goes.valA 6 (Instr.loadAt 3 (.pointer (some ⟨b, o + i * 2, none⟩))) (.int .i64 x.1) (fun w' hm => load1 Tryz.isAgg3 (Cel.same x1 hob (hm.get 2))) ?_
                refine Goes.run [7, 8, 0, 9] [] trivial ?_
                refine Goes.slot 97 (.int .i64 (j : Int)) (u := .int .i64 (IntKind.i64.wrap (which - 1))) (congrArg _ (by rw [hj, IntWalk.i64_in _ ⟨by omega, by omega⟩])) ?_
                refine Goes.run [10, 11] [] trivial ?_
                refine Goes.valA 12 (Instr.indexAt 32 (.slice (some ⟨b, o, none⟩) NL cL) (.int .i64 i)) (.pointer (some ⟨b, o + i * 2, none⟩)) (fun w' _ => idxLv b o NL cL i (by omega) w') ?_
                refine Goes.run [13] [] trivial ?_
                refine Goes.valA 14 (Instr.loadAt 2 (.pointer (some ⟨b, o + i * 2 + 1, none⟩))) (.int .i64 x.2) (fun w' hm => load1 Tryz.isAgg2 (Cel.same x2 hob (hm.get 2))) ?_
                refine Goes.callRQB 15 27 #[.pointer (some ⟨gw, 0, none⟩), cv o6 k6 s6 (.slice a6 N6 c6), .int .i64 x.1, .int .i64 (j : Int), .int .i64 x.2] (.tuple #[]) (LS ++ (brA (acqL fs day [c0, c1] (x.1 + 1)) j x.2).1) (TS ++ (brA (acqL fs day [c0, c1] (x.1 + 1)) j x.2).2) _ hloc [(g9, chO lab which), (g19, cO o6 k6 s6 (.slice a6 N6 c6)), (b, ob)] fw (fun q hq => by
                  simp only [List.mem_cons, List.not_mem_nil, or_false] at hq
                  rcases hq with rfl | rfl | rfl
                  · exact .inl ⟨_, _, _, rfl, by decide⟩
                  · exact .inl ⟨_, _, _, rfl, by decide⟩
                  · exact .inr hb) (fun w1 hm1 hI1 => rbranch_any (n0 := w.heap.size) fw (i := j) (u := u6) hu6 htu (racquire_any hRd fw u6) (hv2.later (hbel hI1)) (hF.later (hbel hI1)) hI1.1.size hI1.2.1 hI1.2.2.1 (hm1.get 0) hb0 (by omega) hb2 x.2 (by omega)) fun lv2 tv2 => ?_
                refine Goes.run [] [] trivial ?_
                refine Goes.slot 18 (.int .i64 (i + 1 : Nat)) (u := .int .i64 (IntKind.i64.wrap ((i : Int) + 1))) (congrArg _ (wrap_nat (by omega))) ?_
                refine Goes.keep 3 ?_
                refine Goes.inv (Inv' := AcI w.heap.size gw day w (.slice none 0 0) (.slice none 0 0) lv2 tv2 (stepP fs day lab which c (l.take (i + 1))).1 (stepP fs day lab which c (l.take (i + 1))).2) (fun w' h => by rw [hsn, hsx]; simp only [R2.cat]; rw [hLS, hTS]; exact h) ?_
                exact back (i + 1, lv2, tv2) _ hil (by simp only; omega) (by kernel_rfl) (by kernel_rfl) (by kernel_rfl)
      · refine Goes.lone1 6 (TookS.callM 6 26 #[cv op k t (.slice a N cc), .int .i64 x.1] fun w1 hm1 hn1 hI1 h01 => ?_)
        have hB1 := hbel hI1.now
        refine (rterm_any c w.heap.size x.1 _ w1 hszc hB1.size (hN.later hB1)).mono fun e w2 hR6 => ?_
        obtain ⟨v6, he, hv1, -, hB2⟩ := hR6
        rw [htt] at he
        have hv2 := (hv1 _ htt).back hB1
        obtain ⟨a6, c6, rfl, -, -⟩ := hv2.open
        obtain ⟨N6, hN6⟩ : ∃ N6, kids6.length = N6 := ⟨_, rfl⟩
        rw [hN6] at hv2 he
        refine ⟨_, AcI w.heap.size gw day w (.slice none 0 0) (.slice none 0 0) lv tv LS TS, _, he, h01.bel hB2, hm1.bel hB2, hn1, hI1.bel hB2, ?_⟩
        refine Goes.run [7, 8, 9] [] trivial ?_
        refine Goes.lone1 11 (TookS.runY 11 3 [1] [(b, ob)] [gw, g5, g9, g19] (hxc g19 f19) ?_)
        refine Goes.run [12] [] trivial ?_
        have hloc : Loc w [(g5, cO op k t (.slice a N cc)), (g9, chO lab which), (g19, cO o6 k6 s6 (.slice a6 N6 c6))] := fun q hq => by
          simp only [List.mem_cons, List.not_mem_nil, or_false] at hq
          rcases hq with rfl | rfl | rfl
          · exact ⟨f5, _, _, _, rfl, by decide⟩
          · exact ⟨f9, _, _, _, rfl, by decide⟩
          · exact ⟨f19, _, _, _, rfl, by decide⟩
        cases ho6 : (o6 == 31) with
        | false =>
          refine Goes.run [3, 0, 0, 0, 0] [(false, false), (false, false), (false, false), (o6 == 31, false)] ⟨rfl, rfl, rfl, ho6, trivial⟩ ?_
          have hsx : stepX fs day lab which (.mk o6 k6 s6 kids6) x.1 x.2 = acq fs day (.mk o6 k6 s6 kids6) x.1 x.2 := by rw [stepX, ho6]; rfl
          refine Goes.openY [3] [(b, ob)] (fun w' hI => holds1 (((hbel hI).block b hb).trans hob)) ?_
          refine Goes.run [0, 1, 0, 2, 3] [] trivial ?_
          refine Goes.valA 4 (Instr.indexAt 32 (.slice (some ⟨b, o, none⟩) NL cL) (.int .i64 i)) (.pointer (some ⟨b, o + i * 2, none⟩)) (fun w' _ => idxLv b o NL cL i (by omega) w') ?_
          refine Goes.run [5] [] trivial ?_
          refine Goes.valA 6 (Instr.loadAt 3 (.pointer (some ⟨b, o + i * 2, none⟩))) (.int .i64 x.1) (fun w' hm => load1 Tryz.isAgg3 (Cel.same x1 hob (hm.get 1))) ?_
          refine Goes.run [7, 8] [] trivial ?_
          refine Goes.valA 9 (Instr.indexAt 32 (.slice (some ⟨b, o, none⟩) NL cL) (.int .i64 i)) (.pointer (some ⟨b, o + i * 2, none⟩)) (fun w' _ => idxLv b o NL cL i (by omega) w') ?_
          refine Goes.run [10] [] trivial ?_
          refine Goes.valA 11 (Instr.loadAt 2 (.pointer (some ⟨b, o + i * 2 + 1, none⟩))) (.int .i64 x.2) (fun w' hm => load1 Tryz.isAgg2 (Cel.same x2 hob (hm.get 1))) ?_
          refine Goes.callRQB 12 23 #[.pointer (some ⟨gw, 0, none⟩), cv o6 k6 s6 (.slice a6 N6 c6), .int .i64 x.1, .int .i64 x.2] (.tuple #[]) (LS ++ (acq fs day (.mk o6 k6 s6 kids6) x.1 x.2).1) (TS ++ (acq fs day (.mk o6 k6 s6 kids6) x.1 x.2).2) _ hloc [(g19, cO o6 k6 s6 (.slice a6 N6 c6)), (b, ob)] fw (fun q hq => by
            simp only [List.mem_cons, List.not_mem_nil, or_false] at hq
            rcases hq with rfl | rfl
            · exact .inl ⟨_, _, _, rfl, by decide⟩
            · exact .inr hb) (fun w1 hm1 hI1 => racquire_any (n0 := w.heap.size) hRd fw (.mk o6 k6 s6 kids6) _ x.1 x.2 _ lv tv LS TS w1 htt4 hb0 (by omega) hb2 (hv2.later (hbel hI1)) (hF.later (hbel hI1)) hI1.1.size hI1.2.1 hI1.2.2.1 (hm1.get 0) hbnd) fun lv2 tv2 => ?_
          refine Goes.run [] [] trivial ?_
          refine Goes.slot 18 (.int .i64 (i + 1 : Nat)) (u := .int .i64 (IntKind.i64.wrap ((i : Int) + 1))) (congrArg _ (wrap_nat (by omega))) ?_
          refine Goes.keep 3 ?_
          refine Goes.inv (Inv' := AcI w.heap.size gw day w (.slice none 0 0) (.slice none 0 0) lv2 tv2 (stepP fs day lab which c (l.take (i + 1))).1 (stepP fs day lab which c (l.take (i + 1))).2) (fun w' h => by rw [hsn, hsx]; simp only [R2.cat]; rw [hLS, hTS]; exact h) ?_
          exact back (i + 1, lv2, tv2) _ hil (by simp only; omega) (by kernel_rfl) (by kernel_rfl) (by kernel_rfl)
        | true =>
          refine Goes.upto 73 [3, 1, 2] [(o6 == 31, true)] ⟨ho6, trivial⟩ ?_
          refine Goes.val (do eqGuard .neq 9 (.tmp 72) (.const (strV [])) (strV lab) (strV []); binOp .neq 9 (strV lab) (strV [])) (.bool (!decide (lab = []))) (fun w' _ _ => neEmp lab 72 w') ?_
          cases h2 : decide (lab = []) with
          | true =>
            refine Goes.run [0, 0, 0] [(false, false), (false, false), (false, false)] ⟨rfl, rfl, rfl, trivial⟩ ?_
            have hsx : stepX fs day lab which (.mk o6 k6 s6 kids6) x.1 x.2 = acq fs day (.mk o6 k6 s6 kids6) x.1 x.2 := by rw [stepX, show decide (lab ≠ []) = false by simpa using h2, Bool.and_false, Bool.false_and, Bool.false_and]; rfl
            refine Goes.openY [3] [(b, ob)] (fun w' hI => holds1 (((hbel hI).block b hb).trans hob)) ?_
            refine Goes.run [0, 1, 0, 2, 3] [] trivial ?_
            refine Goes.valA 4 (Instr.indexAt 32 (.slice (some ⟨b, o, none⟩) NL cL) (.int .i64 i)) (.pointer (some ⟨b, o + i * 2, none⟩)) (fun w' _ => idxLv b o NL cL i (by omega) w') ?_
            refine Goes.run [5] [] trivial ?_
            refine Goes.valA 6 (Instr.loadAt 3 (.pointer (some ⟨b, o + i * 2, none⟩))) (.int .i64 x.1) (fun w' hm => load1 Tryz.isAgg3 (Cel.same x1 hob (hm.get 1))) ?_
            refine Goes.run [7, 8] [] trivial ?_
            refine Goes.valA 9 (Instr.indexAt 32 (.slice (some ⟨b, o, none⟩) NL cL) (.int .i64 i)) (.pointer (some ⟨b, o + i * 2, none⟩)) (fun w' _ => idxLv b o NL cL i (by omega) w') ?_
            refine Goes.run [10] [] trivial ?_
            refine Goes.valA 11 (Instr.loadAt 2 (.pointer (some ⟨b, o + i * 2 + 1, none⟩))) (.int .i64 x.2) (fun w' hm => load1 Tryz.isAgg2 (Cel.same x2 hob (hm.get 1))) ?_
            refine Goes.callRQB 12 23 #[.pointer (some ⟨gw, 0, none⟩), cv o6 k6 s6 (.slice a6 N6 c6), .int .i64 x.1, .int .i64 x.2] (.tuple #[]) (LS ++ (acq fs day (.mk o6 k6 s6 kids6) x.1 x.2).1) (TS ++ (acq fs day (.mk o6 k6 s6 kids6) x.1 x.2).2) _ hloc [(g19, cO o6 k6 s6 (.slice a6 N6 c6)), (b, ob)] fw (fun q hq => by
              simp only [List.mem_cons, List.not_mem_nil, or_false] at hq
              rcases hq with rfl | rfl
              · exact .inl ⟨_, _, _, rfl, by decide⟩
              · exact .inr hb) (fun w1 hm1 hI1 => racquire_any (n0 := w.heap.size) hRd fw (.mk o6 k6 s6 kids6) _ x.1 x.2 _ lv tv LS TS w1 htt4 hb0 (by omega) hb2 (hv2.later (hbel hI1)) (hF.later (hbel hI1)) hI1.1.size hI1.2.1 hI1.2.2.1 (hm1.get 0) hbnd) fun lv2 tv2 => ?_
            refine Goes.run [] [] trivial ?_
            refine Goes.slot 18 (.int .i64 (i + 1 : Nat)) (u := .int .i64 (IntKind.i64.wrap ((i : Int) + 1))) (congrArg _ (wrap_nat (by omega))) ?_
            refine Goes.keep 3 ?_
            refine Goes.inv (Inv' := AcI w.heap.size gw day w (.slice none 0 0) (.slice none 0 0) lv2 tv2 (stepP fs day lab which c (l.take (i + 1))).1 (stepP fs day lab which c (l.take (i + 1))).2) (fun w' h => by rw [hsn, hsx]; simp only [R2.cat]; rw [hLS, hTS]; exact h) ?_
            exact back (i + 1, lv2, tv2) _ hil (by simp only; omega) (by kernel_rfl) (by kernel_rfl) (by kernel_rfl)
          | false =>
            refine Goes.upto 80 [1, 3, 2] [(true, true)] ⟨rfl, trivial⟩ ?_
            refine Goes.val (do eqGuard .eql 9 (.tmp 77) (.tmp 79) (strV s6) (strV lab); binOp .eql 9 (strV s6) (strV lab)) (.bool (decide (s6 = lab))) (fun w' _ _ => eqT (.tmp 77) (.tmp 79) s6 lab rfl w') ?_
            cases h3 : decide (s6 = lab) with
            | false =>
              refine Goes.run [0, 0] [(false, false), (false, false)] ⟨rfl, rfl, trivial⟩ ?_
              have hsx : stepX fs day lab which (.mk o6 k6 s6 kids6) x.1 x.2 = acq fs day (.mk o6 k6 s6 kids6) x.1 x.2 := by rw [stepX, h3, Bool.and_false, Bool.false_and]; rfl
              refine Goes.openY [3] [(b, ob)] (fun w' hI => holds1 (((hbel hI).block b hb).trans hob)) ?_
              refine Goes.run [0, 1, 0, 2, 3] [] trivial ?_
              refine Goes.valA 4 (Instr.indexAt 32 (.slice (some ⟨b, o, none⟩) NL cL) (.int .i64 i)) (.pointer (some ⟨b, o + i * 2, none⟩)) (fun w' _ => idxLv b o NL cL i (by omega) w') ?_
              refine Goes.run [5] [] trivial ?_
              refine Goes.valA 6 (Instr.loadAt 3 (.pointer (some ⟨b, o + i * 2, none⟩))) (.int .i64 x.1) (fun w' hm => load1 Tryz.isAgg3 (Cel.same x1 hob (hm.get 1))) ?_
              refine Goes.run [7, 8] [] trivial ?_
              refine Goes.valA 9 (Instr.indexAt 32 (.slice (some ⟨b, o, none⟩) NL cL) (.int .i64 i)) (.pointer (some ⟨b, o + i * 2, none⟩)) (fun w' _ => idxLv b o NL cL i (by omega) w') ?_
              refine Goes.run [10] [] trivial ?_
              refine Goes.valA 11 (Instr.loadAt 2 (.pointer (some ⟨b, o + i * 2 + 1, none⟩))) (.int .i64 x.2) (fun w' hm => load1 Tryz.isAgg2 (Cel.same x2 hob (hm.get 1))) ?_
              refine Goes.callRQB 12 23 #[.pointer (some ⟨gw, 0, none⟩), cv o6 k6 s6 (.slice a6 N6 c6), .int .i64 x.1, .int .i64 x.2] (.tuple #[]) (LS ++ (acq fs day (.mk o6 k6 s6 kids6) x.1 x.2).1) (TS ++ (acq fs day (.mk o6 k6 s6 kids6) x.1 x.2).2) _ hloc [(g19, cO o6 k6 s6 (.slice a6 N6 c6)), (b, ob)] fw (fun q hq => by
                simp only [List.mem_cons, List.not_mem_nil, or_false] at hq
                rcases hq with rfl | rfl
                · exact .inl ⟨_, _, _, rfl, by decide⟩
                · exact .inr hb) (fun w1 hm1 hI1 => racquire_any (n0 := w.heap.size) hRd fw (.mk o6 k6 s6 kids6) _ x.1 x.2 _ lv tv LS TS w1 htt4 hb0 (by omega) hb2 (hv2.later (hbel hI1)) (hF.later (hbel hI1)) hI1.1.size hI1.2.1 hI1.2.2.1 (hm1.get 0) hbnd) fun lv2 tv2 => ?_
              refine Goes.run [] [] trivial ?_
              refine Goes.slot 18 (.int .i64 (i + 1 : Nat)) (u := .int .i64 (IntKind.i64.wrap ((i : Int) + 1))) (congrArg _ (wrap_nat (by omega))) ?_
              refine Goes.keep 3 ?_
              refine Goes.inv (Inv' := AcI w.heap.size gw day w (.slice none 0 0) (.slice none 0 0) lv2 tv2 (stepP fs day lab which c (l.take (i + 1))).1 (stepP fs day lab which c (l.take (i + 1))).2) (fun w' h => by rw [hsn, hsx]; simp only [R2.cat]; rw [hLS, hTS]; exact h) ?_
              exact back (i + 1, lv2, tv2) _ hil (by simp only; omega) (by kernel_rfl) (by kernel_rfl) (by kernel_rfl)
            | true =>
              refine Goes.upto 87 [1, 3] [(true, true)] ⟨rfl, trivial⟩ ?_
              cases h4 : decide (day ≤ k6) with
              | false =>
                refine Goes.slot 86 (.bool false) (u := .bool (decide (day ≤ k6))) (congrArg _ h4) ?_
                refine Goes.run [0] [(false, false)] ⟨rfl, trivial⟩ ?_
                have hsx : stepX fs day lab which (.mk o6 k6 s6 kids6) x.1 x.2 = acq fs day (.mk o6 k6 s6 kids6) x.1 x.2 := by rw [stepX, h4, Bool.and_false]; rfl
                refine Goes.openY [3] [(b, ob)] (fun w' hI => holds1 (((hbel hI).block b hb).trans hob)) ?_
                refine Goes.run [0, 1, 0, 2, 3] [] trivial ?_
                refine Goes.valA 4 (Instr.indexAt 32 (.slice (some ⟨b, o, none⟩) NL cL) (.int .i64 i)) (.pointer (some ⟨b, o + i * 2, none⟩)) (fun w' _ => idxLv b o NL cL i (by omega) w') ?_
                refine Goes.run [5] [] trivial ?_
                refine Goes.valA 6 (Instr.loadAt 3 (.pointer (some ⟨b, o + i * 2, none⟩))) (.int .i64 x.1) (fun w' hm => load1 Tryz.isAgg3 (Cel.same x1 hob (hm.get 1))) ?_
                refine Goes.run [7, 8] [] trivial ?_
                refine Goes.valA 9 (Instr.indexAt 32 (.slice (some ⟨b, o, none⟩) NL cL) (.int .i64 i)) (.pointer (some ⟨b, o + i * 2, none⟩)) (fun w' _ => idxLv b o NL cL i (by omega) w') ?_
                refine Goes.run [10] [] trivial ?_
                refine Goes.valA 11 (Instr.loadAt 2 (.pointer (some ⟨b, o + i * 2 + 1, none⟩))) (.int .i64 x.2) (fun w' hm => load1 Tryz.isAgg2 (Cel.same x2 hob (hm.get 1))) ?_
                refine Goes.callRQB 12 23 #[.pointer (some ⟨gw, 0, none⟩), cv o6 k6 s6 (.slice a6 N6 c6), .int .i64 x.1, .int .i64 x.2] (.tuple #[]) (LS ++ (acq fs day (.mk o6 k6 s6 kids6) x.1 x.2).1) (TS ++ (acq fs day (.mk o6 k6 s6 kids6) x.1 x.2).2) _ hloc [(g19, cO o6 k6 s6 (.slice a6 N6 c6)), (b, ob)] fw (fun q hq => by
                  simp only [List.mem_cons, List.not_mem_nil, or_false] at hq
                  rcases hq with rfl | rfl
                  · exact .inl ⟨_, _, _, rfl, by decide⟩
                  · exact .inr hb) (fun w1 hm1 hI1 => racquire_any (n0 := w.heap.size) hRd fw (.mk o6 k6 s6 kids6) _ x.1 x.2 _ lv tv LS TS w1 htt4 hb0 (by omega) hb2 (hv2.later (hbel hI1)) (hF.later (hbel hI1)) hI1.1.size hI1.2.1 hI1.2.2.1 (hm1.get 0) hbnd) fun lv2 tv2 => ?_
                refine Goes.run [] [] trivial ?_
                refine Goes.slot 18 (.int .i64 (i + 1 : Nat)) (u := .int .i64 (IntKind.i64.wrap ((i : Int) + 1))) (congrArg _ (wrap_nat (by omega))) ?_
                refine Goes.keep 3 ?_
                refine Goes.inv (Inv' := AcI w.heap.size gw day w (.slice none 0 0) (.slice none 0 0) lv2 tv2 (stepP fs day lab which c (l.take (i + 1))).1 (stepP fs day lab which c (l.take (i + 1))).2) (fun w' h => by rw [hsn, hsx]; simp only [R2.cat]; rw [hLS, hTS]; exact h) ?_
                exact back (i + 1, lv2, tv2) _ hil (by simp only; omega) (by kernel_rfl) (by kernel_rfl) (by kernel_rfl)
              | true =>
                refine Goes.slot 86 (.bool true) (u := .bool (decide (day ≤ k6))) (congrArg _ h4) ?_
                refine Goes.run [1] [(true, true)] ⟨rfl, trivial⟩ ?_
                obtain ⟨c0, c1, rfl, ht0, ht1⟩ : ∃ c0 c1, kids6 = [c0, c1] ∧ typF (dt + 1) c0 = (4, true) ∧ typF (dt + 1) c1 = (4, true) := by
                  rcases con_cases htt4 with ⟨e, -⟩ | ⟨e, -⟩ | ⟨e, -⟩ | ⟨e, -⟩ | ⟨e, -⟩ | ⟨e, -⟩ | ⟨e, -⟩ | ⟨e, -⟩ | ⟨-, c0, c1, e2, a1, a2⟩
                  · rw [e] at ho6; cases ho6
                  · rw [e] at ho6; cases ho6
                  · rw [e] at ho6; cases ho6
                  · rw [e] at ho6; cases ho6
                  · rw [e] at ho6; cases ho6
                  · rw [e] at ho6; cases ho6
                  · rw [e] at ho6; cases ho6
                  · rw [e] at ho6; cases ho6
                  · exact ⟨c0, c1, e2, a1, a2⟩
                obtain ⟨j, hj, hj2⟩ : ∃ j : Nat, which - 1 = (j : Int) ∧ j < 2 := by
                  unfold rcP at hC
                  rw [h2, Bool.false_and, Bool.or_false] at hC
                  simp only [Bool.and_eq_true, Bool.or_eq_true, beq_iff_eq] at hC
                  exact ⟨(which - 1).toNat, by omega, by omega⟩
                obtain ⟨u6, hu6, htu⟩ : ∃ u6, [c0, c1][j]? = some u6 ∧ typF (dt + 1) u6 = (4, true) := by
                  match j, hj2 with
                  | 0, _ => exact ⟨c0, rfl, ht0⟩
                  | 1, _ => exact ⟨c1, rfl, ht1⟩
                have hszu := (szL_cut hu6).1
                have hszp := (szL_cut hu6).2
                have hszk : szC (.mk o6 k6 s6 [c0, c1]) = 1 + szL [c0, c1] := by rw [szC]
                have hsx : stepX fs day lab which (.mk o6 k6 s6 [c0, c1]) x.1 x.2 = brA (acqL fs day [c0, c1] (x.1 + 1)) j x.2 := by rw [stepX, ho6, show decide (lab ≠ []) = true by simpa using h2, h3, h4, hj]; rfl
                refine Goes.openY [2, 3] [(b, ob)] (fun w' hI => holds1 (((hbel hI).block b hb).trans hob)) ?_
                refine Goes.run [0, 1, 1, 2, 3] [] trivial ?_
                refine Goes.valA 4 (Instr.indexAt 32 (.slice (some ⟨b, o, none⟩) NL cL) (.int .i64 i)) (.pointer (some ⟨b, o + i * 2, none⟩)) (fun w' _ => idxLv b o NL cL i (by omega) w') ?_
                refine Goes.run [5] [] trivial ?_
                refine Goes.valA 6 (Instr.loadAt 3 (.pointer (some ⟨b, o + i * 2, none⟩))) (.int .i64 x.1) (fun w' hm => load1 Tryz.isAgg3 (Cel.same x1 hob (hm.get 2))) ?_
                refine Goes.run [7, 8, 0, 9] [] trivial ?_
                refine Goes.slot 97 (.int .i64 (j : Int)) (u := .int .i64 (IntKind.i64.wrap (which - 1))) (congrArg _ (by rw [hj, IntWalk.i64_in _ ⟨by omega, by omega⟩])) ?_
                refine Goes.run [10, 11] [] trivial ?_
                refine Goes.valA 12 (Instr.indexAt 32 (.slice (some ⟨b, o, none⟩) NL cL) (.int .i64 i)) (.pointer (some ⟨b, o + i * 2, none⟩)) (fun w' _ => idxLv b o NL cL i (by omega) w') ?_
                refine Goes.run [13] [] trivial ?_
                refine Goes.valA 14 (Instr.loadAt 2 (.pointer (some ⟨b, o + i * 2 + 1, none⟩))) (.int .i64 x.2) (fun w' hm => load1 Tryz.isAgg2 (Cel.same x2 hob (hm.get 2))) ?_
                refine Goes.callRQB 15 27 #[.pointer (some ⟨gw, 0, none⟩), cv o6 k6 s6 (.slice a6 N6 c6), .int .i64 x.1, .int .i64 (j : Int), .int .i64 x.2] (.tuple #[]) (LS ++ (brA (acqL fs day [c0, c1] (x.1 + 1)) j x.2).1) (TS ++ (brA (acqL fs day [c0, c1] (x.1 + 1)) j x.2).2) _ hloc [(g9, chO lab which), (g19, cO o6 k6 s6 (.slice a6 N6 c6)), (b, ob)] fw (fun q hq => by
                  simp only [List.mem_cons, List.not_mem_nil, or_false] at hq
                  rcases hq with rfl | rfl | rfl
                  · exact .inl ⟨_, _, _, rfl, by decide⟩
                  · exact .inl ⟨_, _, _, rfl, by decide⟩
                  · exact .inr hb) (fun w1 hm1 hI1 => rbranch_any (n0 := w.heap.size) fw (i := j) (u := u6) hu6 htu (racquire_any hRd fw u6) (hv2.later (hbel hI1)) (hF.later (hbel hI1)) hI1.1.size hI1.2.1 hI1.2.2.1 (hm1.get 0) hb0 (by omega) hb2 x.2 (by omega)) fun lv2 tv2 => ?_
                refine Goes.run [] [] trivial ?_
                refine Goes.slot 18 (.int .i64 (i + 1 : Nat)) (u := .int .i64 (IntKind.i64.wrap ((i : Int) + 1))) (congrArg _ (wrap_nat (by omega))) ?_
                refine Goes.keep 3 ?_
                refine Goes.inv (Inv' := AcI w.heap.size gw day w (.slice none 0 0) (.slice none 0 0) lv2 tv2 (stepP fs day lab which c (l.take (i + 1))).1 (stepP fs day lab which c (l.take (i + 1))).2) (fun w' h => by rw [hsn, hsx]; simp only [R2.cat]; rw [hLS, hTS]; exact h) ?_
                exact back (i + 1, lv2, tv2) _ hil (by simp only; omega) (by kernel_rfl) (by kernel_rfl) (by kernel_rfl)
end Go.Proofs.YtekgfdbeinacjaaGreatDoor
namespace Go.Proofs.YtekgfdbeinacjaaGreatDoor
open Go Go.RowKit

theorem ste_len {fs : Fs} {day : Int} {lab : List UInt8} {which : Int} {c : Co} {l : List (Int × Int)} : (steR fs day lab which c l).1.1.length ≤ 1000000000 ∧ (steR fs day lab which c l).1.2.length ≤ 1000000000 := by
  rcases ste_cases fs day lab which c l with ⟨h1, h2, h3⟩ | ⟨h1, -⟩
  · have hc := (chk_typ (c := c) (by simp only [Bool.and_eq_true] at h2; exact h2.1)).2.1
    obtain ⟨hll, -⟩ := rl_facts (by omega) h3
    have := step_len (fs := fs) (day := day) (lab := lab) (which := which) (c := c) l
    have h4 : szC c * ((l.length : Nat) : Int) ≤ 2000 * 2000 := Int.mul_le_mul hc (by omega) (by omega) (by omega)
    rw [h1]
    constructor <;> (simp only; omega)
  · rw [h1]; simp [r0]
end Go.Proofs.YtekgfdbeinacjaaGreatDoor
namespace Go.Proofs.YtekgfdbeinacjaaGreatDoor
open Go Go.ChangeShapes Go.WideShapes Go.ChangeAt Go.WideMaps Go.WideElems Go.RowKit Go.ChangeMaps Go.Deep

end Go.Proofs.YtekgfdbeinacjaaGreatDoor
namespace Go.Proofs.YtekgfdbeinacjaaGreatDoor
open Go Go.ChangeShapes Go.WideShapes Go.ChangeAt Go.WideMaps Go.WideElems Go.RowKit Go.ChangeMaps Go.Deep

set_option maxRecDepth 100000 in
theorem choice_trod {H : Type} {enc : TypeId × Value → H} {W : World} {fuel : Nat} {cs : List Value} {x : DataW H × List MemPlace} (hf : DataW.trod enc Tryz.prog W 0 (fun _ => true) true fuel 40 cs = some x) : ∃ lab k, cs = [strV lab, .int .i64 k] ∧ lab.length ≤ 9223372036854775807 ∧ i64P k := by
  have hc2 : Tryz.prog.cellsOf 40 = 2 := by kernel_rfl
  have hci : Tryz.prog.cellsOf 3 = 1 := by kernel_rfl
  have hcs : Tryz.prog.cellsOf 9 = 1 := by kernel_rfl
  obtain ⟨ys, m, hm, hxy, hcl', hxl, hfd⟩ := DataW.trod_struct Tryz.underlying40 hf
  obtain ⟨y0, y1, rfl⟩ := list2 (show ys.length = 2 from hxl)
  rw [hc2] at hcl'
  obtain ⟨v0, v1, rfl⟩ := list2 hcl'
  have g0 := hfd 0 _ rfl
  have g1 := hfd 1 _ rfl
  simp [hci, hcs] at g0 g1
  obtain ⟨s, e0, _, w0⟩ := DataW.trod_string Tryz.underlying9 g0
  obtain ⟨n, e1, _, w1⟩ := DataW.trod_int Tryz.underlying3 g1
  simp only [List.cons.injEq, and_true] at e0 e1
  subst e0 e1
  exact ⟨s.data.toList, n, by unfold strV; simp, by simpa [maxLen] using w0, bounds_i64 w1⟩
set_option maxRecDepth 100000 in
theorem feeds_trod {H : Type} {enc : TypeId × Value → H} {W : World} {fuel : Nat} {v : Value} {x : DataW H × List MemPlace} (hf : DataW.trod enc Tryz.prog W 0 (fun _ => true) true fuel 38 [v] = some x) : ∃ fs, Fds W.heap.size W v fs ∧ ∀ f ∈ fs, f.1.length ≤ 9223372036854775807 := by
  have hcv : v.cells.toList = [v] := by
    rcases DataW.trod_slice Tryz.underlying38 hf with ⟨e3, _⟩ | ⟨ad, len, cap, elems, rest, q, hq, e3, _⟩
    · simp only [List.cons.injEq, and_true] at e3
      subst e3
      rfl
    · simp only [List.cons.injEq, and_true] at e3
      subst e3
      rfl
  obtain ⟨fs, h1, h2⟩ := feeds_arg (v := v) (d := x.1) (p := x.2) ⟨fuel, by rw [hcv]; exact hf⟩ hcv
  exact ⟨fs, h1, fun f hf => (h2 f hf).1⟩
/-- An event: a day, feeds, a label, which. -/
structure Ev where
  day : Int
  fs : Fs
  lab : List UInt8
  k : Int
def EvOk (e : Ev) : Prop := (∀ f ∈ e.fs, f.1.length ≤ 9223372036854775807) ∧ e.lab.length ≤ 9223372036854775807
/-- Events in memory. -/
def Evs (n : Nat) (w : World) (v : Value) (l : List Ev) : Prop := ∃ a c, v = .slice a l.length c ∧ (l.length ≤ c ∧ c ≤ 9223372036854775807) ∧ ∀ i e, l[i]? = some e → ∃ b o u, a = some ⟨b, o, none⟩ ∧ b < n ∧ w.cell? ⟨b, o + i * 4, none⟩ = some (.int .i64 e.day) ∧ w.cell? ⟨b, o + i * 4 + 1, none⟩ = some u ∧ Fds n w u e.fs ∧ w.cell? ⟨b, o + i * 4 + 2, none⟩ = some (strV e.lab) ∧ w.cell? ⟨b, o + i * 4 + 3, none⟩ = some (.int .i64 e.k)
set_option maxRecDepth 100000 in
theorem event_trod {H : Type} {enc : TypeId × Value → H} {W : World} {fuel : Nat} {cs : List Value} {x : DataW H × List MemPlace} (hf : DataW.trod enc Tryz.prog W 0 (fun _ => true) true fuel 42 cs = some x) : ∃ (e : Ev) (u : Value), cs = [.int .i64 e.day, u, strV e.lab, .int .i64 e.k] ∧ Fds W.heap.size W u e.fs ∧ EvOk e := by
  have hc4 : Tryz.prog.cellsOf 42 = 4 := by kernel_rfl
  have hci : Tryz.prog.cellsOf 3 = 1 := by kernel_rfl
  have hcf : Tryz.prog.cellsOf 38 = 1 := by kernel_rfl
  have hcc : Tryz.prog.cellsOf 40 = 2 := by kernel_rfl
  obtain ⟨ys, m, hm, hxy, hcl', hxl, hfd⟩ := DataW.trod_struct Tryz.underlying42 hf
  have hy3 : ys.length = 3 := hxl
  obtain ⟨y0, y1, y2, rfl⟩ : ∃ a b c, ys = [a, b, c] := by
    match ys, hy3 with
    | [a, b, c], _ => exact ⟨a, b, c, rfl⟩
  rw [hc4] at hcl'
  obtain ⟨v0, v1, v2, v3, rfl⟩ := list4 hcl'
  have g0 := hfd 0 _ rfl
  have g1 := hfd 1 _ rfl
  have g2 := hfd 2 _ rfl
  simp [hci, hcf, hcc] at g0 g1 g2
  obtain ⟨d, e0, _, w0⟩ := DataW.trod_int Tryz.underlying3 g0
  simp only [List.cons.injEq, and_true] at e0
  subst e0
  obtain ⟨fs, hF, hl⟩ := feeds_trod g1
  obtain ⟨lab, k, e2, h2, h3⟩ := choice_trod g2
  simp only [List.cons.injEq, and_true] at e2
  obtain ⟨rfl, rfl⟩ := e2
  exact ⟨⟨d, fs, lab, k⟩, v1, rfl, hF, hl, h2⟩
set_option maxRecDepth 100000 in
/-- Events that are handed in. -/
theorem events_arg {H : Type} {enc : TypeId × Value → H} {W : World} {v : Value} {d : DataW H} {p : List MemPlace} (h0 : DataW.Trod enc Tryz.prog W 0 (fun _ => true) true 31 v d p) (hv : v.cells.toList = [v]) : ∃ es, Evs W.heap.size W v es ∧ ∀ e ∈ es, EvOk e := by
  obtain ⟨fuel, hf⟩ := h0
  rw [hv] at hf
  have hc4 : Tryz.prog.cellsOf 42 = 4 := by kernel_rfl
  rcases DataW.trod_slice Tryz.underlying31 hf with ⟨e3, _⟩ | ⟨ad, len, cap, elems, rest, q, hq, e3, _, _, hlc, hcm, hel, hea, _, _⟩
  · simp only [List.cons.injEq, and_true] at e3
    subst e3
    exact ⟨[], ⟨none, 0, rfl, ⟨Nat.le_refl _, by omega⟩, by simp⟩, by simp⟩
  · simp only [List.cons.injEq, and_true] at e3
    subst e3
    rw [hc4] at hea
    have each : ∀ i, i < len → ∃ z : Ev, W.cell? (ad.add (i * 4)) = some (.int .i64 z.day) ∧ (∃ u, W.cell? (ad.add (i * 4 + 1)) = some u ∧ Fds W.heap.size W u z.fs) ∧ W.cell? (ad.add (i * 4 + 2)) = some (strV z.lab) ∧ W.cell? (ad.add (i * 4 + 3)) = some (.int .i64 z.k) ∧ EvOk z := by
      intro i hi
      have h1 := hea i hi
      rw [List.getElem?_eq_getElem (by omega)] at h1
      obtain ⟨cs2, h2, h3⟩ := Option.bind_eq_some_iff.1 h1
      obtain ⟨_, hlen2, hcell⟩ := World.cells?_some h2
      obtain ⟨z, u, rfl, b1, b2⟩ := event_trod h3
      have c0 := hcell 0 (by omega)
      have c1 := hcell 1 (by omega)
      have c2 := hcell 2 (by omega)
      have c3 := hcell 3 (by omega)
      rw [add_add] at c0 c1 c2 c3
      exact ⟨z, by simpa using c0, ⟨u, by simpa using c1, b1⟩, by simpa using c2, by simpa using c3, b2⟩
    haveI : Inhabited Ev := ⟨⟨0, [], [], 0⟩⟩
    obtain ⟨f, hq'⟩ := choose_lt each
    have hkl : ((List.range len).map f).length = len := by simp
    have hkg : ∀ i t, ((List.range len).map f)[i]? = some t → i < len ∧ f i = t := by
      intro i t h
      have hi : i < len := by have := (List.getElem?_eq_some_iff.1 h).1; simpa using this
      exact ⟨hi, by simpa [hi] using h⟩
    refine ⟨(List.range len).map f, ⟨some ad, cap, by rw [hkl], ⟨by rw [hkl]; exact hlc, hcm⟩, fun i t h => ?_⟩, fun t ht => ?_⟩
    · obtain ⟨hi, rfl⟩ := hkg i t h
      obtain ⟨c0, ⟨u, c1, hu⟩, c2, c3, _⟩ := hq' i hi
      obtain ⟨z0, _⟩ := hq' 0 (by omega)
      rw [Nat.zero_mul] at z0
      obtain ⟨b, off, sp⟩ := ad
      obtain rfl : sp = none := spot_none z0
      rw [Addr.add_lit] at c0 c1 c2 c3
      exact ⟨b, off, u, rfl, World.block_lt_of_cell? W _ c0, c0, by rw [Nat.add_assoc]; exact c1, hu, by rw [Nat.add_assoc]; exact c2, by rw [Nat.add_assoc]; exact c3⟩
    · obtain ⟨i, hi, rfl⟩ := List.mem_map.1 ht
      exact (hq' i (List.mem_range.1 hi)).2.2.2.2
end Go.Proofs.YtekgfdbeinacjaaGreatDoor
