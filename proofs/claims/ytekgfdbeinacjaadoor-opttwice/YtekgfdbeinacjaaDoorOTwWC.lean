/- the text OTwW -/
import Derived.Test.YtekgfdbeinacjaaDoorAG15
import Derived.Test.YtekgfdbeinacjaaDoorOTwMC
import Derived.Test.YtekgfdbeinacjaaDoorAG3
namespace Go.Proofs.YtekgfdbeinacjaaDoor
open Go Go.RowKit

abbrev nilV : Value := .slice none 0 0
theorem KI.begin {w : World} {m : World → Prop} : ∀ w', (Ch (Mem.ids []) w w' ∧ m w') → KI w (fun _ => False) w nilV 0 [] w' := fun w' h => ⟨h.1, w'.ownsRow_nil _ _ _, fun x hx => hx.elim, fun r hr => by cases hr⟩
section
variable {A B : Nat → Prop} {w wf w1 w2 : World} {v : Value} {c : Co} (hA : ∀ x, A x → x < w.heap.size) (hAw : ∀ x, A x → wf.heap[x]? = w.heap[x]?) (hI : KI w B wf nilV 0 [] w1)
include hA hI
theorem KI.lt : ∀ x, (A x ∨ B x) → x < w1.heap.size := fun x hx => by
  rcases hx with hx | hx
  · exact Nat.lt_of_lt_of_le (hA x hx) hI.ch.size
  · exact (hI.stay x hx).2.2
include hAw
/-- A term that stays is there. -/
theorem KI.nc (h : NcS (fun x => A x ∨ B x) wf v c) : NcS (fun x => A x ∨ B x) w1 v c := h.later fun x hx => by
  rcases hx with hx | hx
  · rw [hAw x hx, hI.bel.block x (hA x hx)]
  · exact (hI.stay x hx).1
theorem KI.nc' (h : NcS (fun x => A x ∨ B x) wf v c) : Nc w1.heap.size w1 v c := (KI.nc hA hAw hI h).toN (KI.lt hA hI)
/-- It stays behind a call. -/
theorem KI.lift (hB : Below w1.heap.size w1 w2) (h : NcS (fun x => A x ∨ B x) wf v c) : NcS (fun x => A x ∨ (B x ∨ (w1.heap.size ≤ x ∧ x < w2.heap.size))) w2 v c := ((KI.nc hA hAw hI h).bel (KI.lt hA hI) hB).mono fun _ hx => hx.elim .inl fun hx => .inr (.inl hx)
omit hAw in
theorem KI.old (hB : Below w1.heap.size w1 w2) : ∀ x, A x → w2.heap[x]? = w.heap[x]? := fun x hx => by
  rw [hB.block x (Nat.lt_of_lt_of_le (hA x hx) hI.ch.size), hI.bel.block x (hA x hx)]
omit hA hAw hI in
theorem since_lift (h : NcS (Since (fun x => A x ∨ B x) w1 w2) w2 v c) : NcS (fun x => A x ∨ (B x ∨ (w1.heap.size ≤ x ∧ x < w2.heap.size))) w2 v c := h.mono fun x hx => by
  rcases hx with (hx | hx) | hx
  · exact .inl hx
  · exact .inr (.inl hx)
  · exact .inr (.inr hx)
end
set_option maxRecDepth 100000 in
seal rn rnN rnS Goes ans atEnd put0 putM opened openedY putA0 putA oneSt st0 keep put in
theorem twice_walk {c : Co} {v : Value} {w : World} (n : Int) (hT : Tab w) (hN : Nc w.heap.size w v c) : Calls Tryd.prog 3 #[v, .int .i64 n] w fun e w' => e = .returned (.bool true) ∧ Below w.heap.size w w' := by
  obtain ⟨op, k, s, a, N, cc, rfl⟩ := hN.cells
  have hA : ∀ x, x < w.heap.size → x < w.heap.size := fun _ h => h
  have hS0 : NcS (fun x => x < w.heap.size ∨ False) w (cv op k s (.slice a N cc)) c := hN.toS.mono fun x hx => .inl hx
  refine Goes.begin Tryd.func3 [] (fun _ => True) Holds.nil (by simp [Mem.ids]) (fun _ _ => trivial) ?_
  refine Goes.inv KI.begin ?_
  refine Goes.run1 [] [] trivial fun g2 => ?_
  refine Goes.call0 5 #[] (.bool true) (fun w' hm hI => shown16_any (hT.below hI.now.bel)) ?_
  refine Goes.run [0] [] trivial ?_
  refine Goes.call 6 #[cv op k s (.slice a N cc), .int .i64 n] fun w1 hm1 hn1 hI1 => (do_any (A := fun x => x < w.heap.size ∨ False) n (KI.lt hA hI1.now) (KI.nc hA (fun _ _ => rfl) hI1.now hS0) (hT.below hI1.now.bel)).mono fun e w2 ⟨he, hB12⟩ => ?_
  cases hd : doP c n with
  | none =>
    rw [hd] at he
    refine ⟨_, _, _, he, hm1.bel hB12, hn1, hI1.bel hB12, ?_⟩
    refine Goes.run1 [1, 1] [(true, true)] ⟨rfl, trivial⟩ fun g6 => ?_
    exact Goes.ret [] (.bool true) fun w' hm hI => ⟨rfl, hI.now.bel⟩
  | some t =>
    rw [hd] at he
    obtain ⟨v2, he, hN2⟩ := he
    obtain ⟨o2, k2, s2, a2, n2, c2, rfl⟩ := hN2.cells
    have hS1 := KI.lift hA (fun _ _ => rfl) hI1.now hB12 hS0
    have hT1 := since_lift hN2
    have hw2 := KI.old hA hI1.now hB12
    refine ⟨_, _, _, he, hm1.bel hB12, hn1, KI.call hI1 (holds_lt hm1) hB12, ?_⟩
    refine Goes.run1 [1, 0, 1] [(false, false)] ⟨rfl, trivial⟩ fun g6 => ?_
    refine Goes.call 6 #[cv o2 k2 s2 (.slice a2 n2 c2), .int .i64 n] fun w3 hm3 hn3 hI3 => (do_any n (KI.lt hA hI3.now) (KI.nc hA hw2 hI3.now hT1) (hT.below hI3.now.bel)).mono fun e w4 ⟨he4, hB34⟩ => ?_
    rw [do_twice hd] at he4
    obtain ⟨v4, he4, hN4⟩ := he4
    obtain ⟨o4, k4, s4, a4, n4, c4, rfl⟩ := hN4.cells
    have hS3 := KI.lift hA hw2 hI3.now hB34 hS1
    have hT3 := KI.lift hA hw2 hI3.now hB34 hT1
    have hU3 := since_lift hN4
    have hw4 := KI.old hA hI3.now hB34
    refine ⟨_, _, _, he4, hm3.bel hB34, hn3, KI.call hI3 (holds_lt hm3) hB34, ?_⟩
    refine Goes.run1 [2, 0] [] trivial fun g8 => ?_
    refine Goes.call 6 #[cv op k s (.slice a N cc), .int .i64 0] fun w5 hm5 hn5 hI5 => (do_any 0 (KI.lt hA hI5.now) (KI.nc hA hw4 hI5.now hS3) (hT.below hI5.now.bel)).mono fun e w6 ⟨he6, hB56⟩ => ?_
    rw [do_none (do_some hd).2.1] at he6
    obtain ⟨v6, he6, hN6⟩ := he6
    obtain ⟨o6, k6, s6, a6, n6, c6, rfl⟩ := hN6.cells
    have hS5 := KI.lift hA hw4 hI5.now hB56 hS3
    have hT5 := KI.lift hA hw4 hI5.now hB56 hT3
    have hU5 := KI.lift hA hw4 hI5.now hB56 hU3
    have hV5 := since_lift hN6
    have hw6 := KI.old hA hI5.now hB56
    refine ⟨_, _, _, he6, hm5.bel hB56, hn5, KI.call hI5 (holds_lt hm5) hB56, ?_⟩
    refine Goes.run1 [3, 1, 1, 1, 2] [(true, true), (true, true)] ⟨rfl, rfl, trivial⟩ fun g10 => ?_
    refine Goes.call0 7 #[cv o2 k2 s2 (.slice a2 n2 c2), cv o4 k4 s4 (.slice a4 n4 c4)] (.bool true) (fun w7 hm hI => by have := sameC_any t t _ _ w7 (KI.nc' hA hw6 hI.now hT5) (KI.nc' hA hw6 hI.now hU5); rw [sameB_self] at this; exact this) ?_
    refine Goes.run [1, 1, 0, 3] [(true, true), (true, true)] ⟨rfl, rfl, trivial⟩ ?_
    refine Goes.call0 7 #[cv op k s (.slice a N cc), cv o6 k6 s6 (.slice a6 n6 c6)] (.bool true) (fun w7 hm hI => by have := sameC_any c c _ _ w7 (KI.nc' hA hw6 hI.now hS5) (KI.nc' hA hw6 hI.now hV5); rw [sameB_self] at this; exact this) ?_
    refine Goes.run [] [] trivial ?_
    exact Goes.ret [] (.bool true) fun w' hm hI => ⟨rfl, hI.now.bel⟩
end Go.Proofs.YtekgfdbeinacjaaDoor
