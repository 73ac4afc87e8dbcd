/- the text OLeW -/
import Derived.Test.YtekgfdbeinacjaaGreatDoorOTwWC
import Derived.Test.YtekgfdbeinacjaaGreatDoorAG3
namespace Go.Proofs.YtekgfdbeinacjaaGreatDoor
open Go Go.RowKit

theorem hz_right {c : Co} (h : okT 4 1 c = true) (hs : szC c ≤ 2000) : askP hzF 0 c = hzC c := by
  rw [hz_eq (typ4 ((isOfP_eq 4 c).2 ⟨h, hs⟩))]
  have := hzC_pos c
  omega
set_option maxRecDepth 100000 in
seal rn rnN rnS Goes ans atEnd put0 putM opened openedY putA0 putA oneSt st0 keep put in
theorem less_walk {c : Co} {v : Value} {w : World} (n : Int) (hn : -9223372036854775808 ≤ n ∧ n ≤ 9223372036854775807) (hT : Tab w) (hN : Nc w.heap.size w v c) : Calls Tryz.prog 5 #[v, .int .i64 n] w fun e w' => e = .returned (.bool true) ∧ Below w.heap.size w w' := by
  obtain ⟨op, k, s, a, N, cc, rfl⟩ := hN.cells
  have hA : ∀ x, x < w.heap.size → x < w.heap.size := fun _ h => h
  have hS0 : NcS (fun x => x < w.heap.size ∨ False) w (cv op k s (.slice a N cc)) c := hN.toS.mono fun x hx => .inl hx
  refine Goes.begin Tryz.func5 [] (fun _ => True) Holds.nil (by simp [Mem.ids]) (fun _ _ => trivial) ?_
  refine Goes.inv KI.begin ?_
  refine Goes.run1 [] [] trivial fun g2 => ?_
  refine Goes.call0 6 #[] (.bool true) (fun w' hm hI => shown16_any (hT.below hI.now.bel)) ?_
  refine Goes.run [0] [] trivial ?_
  refine Goes.call 7 #[cv op k s (.slice a N cc), .int .i64 n] fun w1 hm1 hn1 hI1 => (do_any (A := fun x => x < w.heap.size ∨ False) n (KI.lt hA hI1.now) (KI.nc hA (fun _ _ => rfl) hI1.now hS0) (hT.below hI1.now.bel)).mono fun e w2 ⟨he, hB12⟩ => ?_
  have hS1 := KI.lift hA (fun _ _ => rfl) hI1.now hB12 hS0
  have hw2 := KI.old hA hI1.now hB12
  cases hd : doP c n with
  | none =>
    rw [hd] at he
    refine ⟨_, _, _, he, hm1.bel hB12, hn1, KI.call hI1 (holds_lt hm1) hB12, ?_⟩
    cases h0 : decide (n < 0) with
    | true =>
      refine Goes.run1 [1, 1, 1, 1, 1, 1] [(true, true), (decide (n < 0), true), (true, true), (true, true), (true, true)] ⟨rfl, h0, rfl, rfl, rfl, trivial⟩ fun g6 => ?_
      exact Goes.ret [] (.bool true) fun w' hm hI => ⟨rfl, hI.now.bel⟩
    | false =>
    cases h15 : decide (n > 15) with
    | true =>
      refine Goes.run1 [1, 1, 1, 1, 0, 1] [(decide (n > 15), true), (decide (n < 0), false), (true, true), (true, true), (true, true)] ⟨h15, h0, rfl, rfl, rfl, trivial⟩ fun g6 => ?_
      exact Goes.ret [] (.bool true) fun w' hm hI => ⟨rfl, hI.now.bel⟩
    | false =>
      have hb : badP n = false := by
        rw [bad_eq hn]
        have e1 := of_decide_eq_false h0
        have e2 := of_decide_eq_false h15
        rw [decide_eq_true (by omega), decide_eq_true (by omega)]
        rfl
      have hc : (chkP c == 0) = false := by
        unfold doP at hd
        cases hc : (chkP c == 0) with
        | false => rfl
        | true => rw [hb, hc] at hd; cases hd
      refine Goes.run1 [1, 1, 1, 1, 0, 0, 0] [(decide (n > 15), false), (decide (n < 0), false), (true, true), (true, true), (true, true)] ⟨h15, h0, rfl, rfl, rfl, trivial⟩ fun g6 => ?_
      refine Goes.call0 14 #[cv op k s (.slice a N cc)] (.int .i64 (chkP c)) (fun w7 hm hI => rcheck_any (KI.nc' hA hw2 hI.now hS1)) ?_
      refine Goes.run [] [] trivial ?_
      exact Goes.ret [] (.bool (!(chkP c == 0))) fun w' hm hI => ⟨by rw [hc]; rfl, hI.now.bel⟩
  | some t =>
    rw [hd] at he
    obtain ⟨v2, he, hN2⟩ := he
    obtain ⟨o2, k2, s2, a2, n2, c2, rfl⟩ := hN2.cells
    have hT1 := since_lift hN2
    obtain ⟨hb, hck, ht⟩ := do_some hd
    obtain ⟨hk1, hk2, hk3⟩ := do_chk hd
    obtain ⟨q1, q2, q3⟩ := chk_ok hck
    obtain ⟨p1, p2, p3⟩ := chk_ok (c := t) (by rw [hk1]; rfl)
    refine ⟨_, _, _, he, hm1.bel hB12, hn1, KI.call hI1 (holds_lt hm1) hB12, ?_⟩
    refine Goes.run1 [1, 0] [(false, false)] ⟨rfl, trivial⟩ fun g6 => ?_
    refine Goes.open [0, 1] ?_
    refine Goes.run [0, 1, 2, 1] [] trivial ?_
    refine Goes.callA0 3 14 #[cv o2 k2 s2 (.slice a2 n2 c2)] (.int .i64 0) (fun w7 hm hI => by have := rcheck_any (KI.nc' hA hw2 hI.now hT1); rw [hk1] at this; exact this) ?_
    refine Goes.run [4, 5, 6, 7, 1, 9, 0] [] trivial ?_
    refine Goes.callA0 8 15 #[cv o2 k2 s2 (.slice a2 n2 c2)] (.int .i64 (szC t)) (fun w7 hm hI => rsizeC_any t _ w7 p2 (KI.nc' hA hw2 hI.now hT1)) ?_
    refine Goes.callA0 10 15 #[cv op k s (.slice a N cc)] (.int .i64 (szC c)) (fun w7 hm hI => rsizeC_any c _ w7 q2 (KI.nc' hA hw2 hI.now hS1)) ?_
    refine Goes.run [11] [] trivial ?_
    refine Goes.slot 46 (.bool true) (u := .bool (decide (szC t ≤ szC c))) (congrArg _ (decide_eq_true hk2)) ?_
    refine Goes.run [12, 13, 14, 1, 16, 0] [] trivial ?_
    refine Goes.callA0 15 16 #[cv o2 k2 s2 (.slice a2 n2 c2)] (.int .i64 (hzC t)) (fun w7 hm hI => by have := rhorizon_any (KI.nc' hA hw2 hI.now hT1); rw [hz_right p1 p2] at this; exact this) ?_
    refine Goes.callA0 17 16 #[cv op k s (.slice a N cc)] (.int .i64 (hzC c)) (fun w7 hm hI => by have := rhorizon_any (KI.nc' hA hw2 hI.now hS1); rw [hz_right q1 q2] at this; exact this) ?_
    refine Goes.run [18, 19, 20] [] trivial ?_
    exact Goes.ret [] (.bool (decide (hzC t ≤ hzC c))) fun w' hm hI => ⟨by rw [decide_eq_true hk3], hI.now.bel⟩
end Go.Proofs.YtekgfdbeinacjaaGreatDoor
