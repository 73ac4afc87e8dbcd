/- The document's side of causal: Type, Check, Horizon, Size, Feeds. -/
import Derived.Test.YtfblnjidghijaaaCRefM
import Derived.Test.YtfblnjidghijaaaCRefT2
import Derived.Test.YtfblnjidghijaaaCWith2
namespace Go.Proofs.Ytfblnjidghijaaa
open Go Go.RowKit

set_option maxRecDepth 100000 in
seal rn rnN rnS Goes ans atEnd put0 putM opened putA0 putA oneSt st0 orT orG in
theorem rtype_any {c : Co} {v : Value} {w : World} (hN : Nc w.heap.size w v c) : Calls Try.prog 8 #[v] w fun e w' => e = .returned (.tuple #[.int .i64 (typP c).1, .bool (typP c).2]) ∧ Below w.heap.size w w' := by
  obtain ⟨op, k, t, a, N, cc, rfl⟩ := hN.cells
  rw [← rty_eq]
  refine Goes.begin Try.func8 [] (fun _ => True) Holds.nil (by simp [Mem.ids]) (fun _ _ => trivial) ?_
  refine Goes.run1 [0] [] trivial fun g => ?_
  refine Goes.call0 20 #[cv op k t (.slice a N cc)] (.bool (smaP c)) (fun w' _ hI => small_any (hN.at (bel0 hI))) ?_
  cases hs : smaP c with
  | false =>
    refine Goes.run [1] [(true, true)] ⟨rfl, trivial⟩ ?_
    exact Goes.ret [] (.tuple #[.int .i64 0, .bool false]) fun w' hm hI => ⟨by unfold rtyP; rw [hs] <;> rfl, bel0 hI⟩
  | true =>
    refine Goes.run [0, 0] [(false, false)] ⟨rfl, trivial⟩ ?_
    refine Goes.call0 21 #[cv op k t (.slice a N cc), .int .i64 1] (.tuple #[.int .i64 (typF 1 c).1, .bool (typF 1 c).2]) (fun w' _ hI => typed_any c _ w' 1 (by omega) (by omega) (hN.at (bel0 hI))) ?_
    cases ht : (typF 1 c).2 with
    | false =>
      refine Goes.run [1] [(true, true)] ⟨rfl, trivial⟩ ?_
      exact Goes.ret [] (.tuple #[.int .i64 0, .bool false]) fun w' hm hI => ⟨by unfold rtyP; rw [hs, ht] <;> rfl, bel0 hI⟩
    | true =>
      refine Goes.run [0] [(false, false)] ⟨rfl, trivial⟩ ?_
      exact Goes.ret [] (.tuple #[.int .i64 (typF 1 c).1, .bool true]) fun w' hm hI => ⟨by unfold rtyP; rw [hs, ht] <;> rfl, bel0 hI⟩
set_option maxRecDepth 100000 in
seal rn rnN rnS Goes ans atEnd put0 putM opened putA0 putA oneSt st0 orT orG in
theorem rcheck_any {c : Co} {v : Value} {w : World} (hN : Nc w.heap.size w v c) : Calls Try.prog 10 #[v] w fun e w' => e = .returned (.int .i64 (chkP c)) ∧ Below w.heap.size w w' := by
  obtain ⟨op, k, t, a, N, cc, rfl⟩ := hN.cells
  rw [chk_eq]
  refine Goes.begin Try.func10 [] (fun _ => True) Holds.nil (by simp [Mem.ids]) (fun _ _ => trivial) ?_
  refine Goes.run1 [0] [] trivial fun g => ?_
  refine Goes.call0 8 #[cv op k t (.slice a N cc)] (.tuple #[.int .i64 (typP c).1, .bool (typP c).2]) (fun w' _ hI => rtype_any (hN.at (bel0 hI))) ?_
  cases hb : (typP c).2 with
  | false =>
    refine Goes.run [1, 1] [(true, true), (true, true)] ⟨rfl, rfl, trivial⟩ ?_
    exact Goes.ret [] (.int .i64 140) fun w' hm hI => ⟨rfl, bel0 hI⟩
  | true =>
    cases h4 : ((typP c).1 != 4) with
    | true =>
      refine Goes.run [0, 1] [((typP c).1 != 4, true), (false, false)] ⟨h4, rfl, trivial⟩ ?_
      exact Goes.ret [] (.int .i64 140) fun w' hm hI => ⟨rfl, bel0 hI⟩
    | false =>
      refine Goes.run [0, 0, 0] [((typP c).1 != 4, false), (false, false)] ⟨h4, rfl, trivial⟩ ?_
      refine Goes.call0 25 #[cv op k t (.slice a N cc)] (.bool (ahC c)) (fun w' _ hI => ahead_any c _ w' (hN.at (bel0 hI))) ?_
      cases ha : ahC c with
      | true =>
        refine Goes.run [1] [(true, true)] ⟨rfl, trivial⟩ ?_
        exact Goes.ret [] (.int .i64 141) fun w' hm hI => ⟨rfl, bel0 hI⟩
      | false =>
        refine Goes.run [0] [(false, false)] ⟨rfl, trivial⟩ ?_
        exact Goes.ret [] (.int .i64 0) fun w' hm hI => ⟨rfl, bel0 hI⟩
theorem hz_pos : ∀ c : Co, 0 ≤ hzC c
  | .mk op k t kids => by rw [hzC]; have := hzL_pos kids; omega
set_option maxRecDepth 100000 in
seal rn rnN rnS Goes ans atEnd put0 putM opened putA0 putA oneSt st0 orT orG in
theorem rhorizon_any {c : Co} {v : Value} {w : World} (hN : Nc w.heap.size w v c) : Calls Try.prog 12 #[v] w fun e w' => e = .returned (.int .i64 (askP hzF 0 c)) ∧ Below w.heap.size w w' := by
  obtain ⟨op, k, t, a, N, cc, rfl⟩ := hN.cells
  refine Goes.begin Try.func12 [] (fun _ => True) Holds.nil (by simp [Mem.ids]) (fun _ _ => trivial) ?_
  refine Goes.run1 [0] [] trivial fun g => ?_
  refine Goes.call0 8 #[cv op k t (.slice a N cc)] (.tuple #[.int .i64 (typP c).1, .bool (typP c).2]) (fun w' _ hI => rtype_any (hN.at (bel0 hI))) ?_
  cases hb : (typP c).2 with
  | false =>
    refine Goes.run [1] [(true, true)] ⟨rfl, trivial⟩ ?_
    exact Goes.ret [] (.int .i64 0) fun w' hm hI => ⟨by unfold askP; rw [hb]; rfl, bel0 hI⟩
  | true =>
    refine Goes.run [0, 0] [(false, false)] ⟨rfl, trivial⟩ ?_
    refine Goes.call0 28 #[cv op k t (.slice a N cc)] (.int .i64 (hrF c)) (fun w' _ hI => hor_any c _ w' (hN.at (bel0 hI))) ?_
    refine Goes.run [] [] trivial ?_
    exact Goes.ret [] (.int .i64 (hrF c)) fun w' hm hI => ⟨by rw [hz_eq hb, hr_all c 1 (typ_right hb).1]; have := hz_pos c; congr 2; omega, bel0 hI⟩
set_option maxRecDepth 100000 in
seal rn rnN rnS Goes ans atEnd put0 putM opened putA0 putA oneSt st0 orT orG in
theorem rsizeT_any {c : Co} {v : Value} {w : World} (hN : Nc w.heap.size w v c) : Calls Try.prog 17 #[v] w fun e w' => e = .returned (.int .i64 (askP szF 0 c)) ∧ Below w.heap.size w w' := by
  obtain ⟨op, k, t, a, N, cc, rfl⟩ := hN.cells
  refine Goes.begin Try.func17 [] (fun _ => True) Holds.nil (by simp [Mem.ids]) (fun _ _ => trivial) ?_
  refine Goes.run1 [0] [] trivial fun g => ?_
  refine Goes.call0 8 #[cv op k t (.slice a N cc)] (.tuple #[.int .i64 (typP c).1, .bool (typP c).2]) (fun w' _ hI => rtype_any (hN.at (bel0 hI))) ?_
  cases hb : (typP c).2 with
  | false =>
    refine Goes.run [1] [(true, true)] ⟨rfl, trivial⟩ ?_
    exact Goes.ret [] (.int .i64 0) fun w' hm hI => ⟨by unfold askP; rw [hb]; rfl, bel0 hI⟩
  | true =>
    refine Goes.run [0, 0] [(false, false)] ⟨rfl, trivial⟩ ?_
    refine Goes.call0 34 #[cv op k t (.slice a N cc)] (.int .i64 (szC c)) (fun w' _ hI => rsize_any c _ w' (typ_right hb).2 (hN.at (bel0 hI))) ?_
    refine Goes.run [] [] trivial ?_
    exact Goes.ret [] (.int .i64 (szC c)) fun w' hm hI => ⟨by rw [sz_eq hb], bel0 hI⟩
set_option maxRecDepth 100000 in
seal rn rnN rnS Goes ans atEnd put0 putM opened putA0 putA oneSt st0 orT orG in
theorem rfeeds_any {c : Co} {v : Value} {w : World} (hN : Nc w.heap.size w v c) : Calls Try.prog 15 #[v] w fun e w' => ∃ v', e = .returned v' ∧ Rws w.heap.size w' v' (bif (typP c).2 then fdF [] c else []) ∧ Below w.heap.size w w' := by
  obtain ⟨op, k, t, a, N, cc, rfl⟩ := hN.cells
  refine Goes.begin Try.func15 [] (fun _ => True) Holds.nil (by simp [Mem.ids]) (fun _ _ => trivial) ?_
  refine Goes.run1 [0] [] trivial fun g => ?_
  refine Goes.call0 8 #[cv op k t (.slice a N cc)] (.tuple #[.int .i64 (typP c).1, .bool (typP c).2]) (fun w' _ hI => rtype_any (hN.at (bel0 hI))) ?_
  cases hb : (typP c).2 with
  | false =>
    refine Goes.run [1] [(true, true)] ⟨rfl, trivial⟩ ?_
    exact Goes.ret [] (.slice none 0 0) fun w' hm hI => ⟨_, rfl, Rws.nil, bel0 hI⟩
  | true =>
    have hsz := (typ_right hb).2
    refine Goes.run [0, 0] [(false, false)] ⟨rfl, trivial⟩ ?_
    refine Goes.call 32 #[.slice none 0 0, cv op k t (.slice a N cc)] fun w1 hm1 hn1 hI1 => (feeds_any c w.heap.size [] (.slice none 0 0) _ w1 Rws.nil hI1.now.1.size (by simp; omega) (hN.at (bel0 hI1))).mono fun e w2 ⟨v', he, hR, hB⟩ => ?_
    have hB1 : Below w.heap.size w w1 := bel0 hI1
    refine ⟨v', fun w' => Below w.heap.size w w' ∧ Rws w.heap.size w' v' (fdF [] c), [], he, Holds.nil, by simp [Mem.ids], hR.stay (hB1.trans (hB.mono hB1.size)) (by simp [Mem.ids]) (by simp [Mem.ids]), ?_⟩
    refine Goes.run [] [] trivial ?_
    exact Goes.ret [] v' fun w' hm hI => ⟨_, rfl, hI.now.2, hI.now.1⟩
end Go.Proofs.Ytfblnjidghijaaa
