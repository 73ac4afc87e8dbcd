/- causal: Type. -/
import Derived.Test.YtfblnjidghijaaaCIsOf
import Derived.Test.YtfblnjidghijaaaCPure
namespace Go.Proofs.Ytfblnjidghijaaa
open Go Go.RowKit

def typP (c : Co) : Int × Bool := bif isOfP 0 c then (0, true) else bif isOfP 1 c then (1, true) else bif isOfP 2 c then (2, true) else bif isOfP 4 c then (4, true) else (0, false)
theorem Nc.at {w w' : World} {v : Value} {c : Co} (hN : Nc w.heap.size w v c) (hB : Below w.heap.size w w') : Nc w'.heap.size w' v c := (hN.later hB).more hB.size
theorem isOf0 (want : Int) {c : Co} {v : Value} {w w' : World} (hN : Nc w.heap.size w v c) (hB : Below w.heap.size w w') : Calls Try.prog 19 #[v, .int .i64 want] w' fun e w'' => e = .returned (.bool (isOfP want c)) ∧ Below w'.heap.size w' w'' := isOf_any want (hN.at hB) (safe_fit want c)
set_option maxRecDepth 100000 in
seal rn rnN rnS Goes ans atEnd put0 putM opened putA0 oneSt st0 orT orG in
theorem type_any {c : Co} {v : Value} {w : World} (hN : Nc w.heap.size w v c) : Calls Try.prog 7 #[v] w fun e w' => e = .returned (.tuple #[.int .i64 (typP c).1, .bool (typP c).2]) ∧ Below w.heap.size w w' := by
  obtain ⟨op, k, t, a, N, cc, rfl⟩ := hN.cells
  refine Goes.begin Try.func7 [] (fun _ => True) Holds.nil (by simp [Mem.ids]) (fun _ _ => trivial) ?_
  refine Goes.run1 [0, 1, 0, 0] [(true, true)] ⟨rfl, trivial⟩ fun g => ?_
  refine Goes.call0 19 #[cv op k t (.slice a N cc), .int .i64 0] (.bool (isOfP 0 c)) (fun w' _ hI => isOf0 0 hN (bel0 hI)) ?_
  cases h0 : isOfP 0 c with
  | true =>
    refine Goes.run [1] [(true, true)] ⟨rfl, trivial⟩ ?_
    exact Goes.ret [] (.tuple #[.int .i64 0, .bool true]) fun w' hm hI => ⟨by unfold typP; rw [h0] <;> rfl, bel0 hI⟩
  | false =>
    refine Goes.run [0, 0, 1, 0, 0] [(true, true), (false, false)] ⟨rfl, rfl, trivial⟩ ?_
    refine Goes.call0 19 #[cv op k t (.slice a N cc), .int .i64 1] (.bool (isOfP 1 c)) (fun w' _ hI => isOf0 1 hN (bel0 hI)) ?_
    cases h1 : isOfP 1 c with
    | true =>
      refine Goes.run [1] [(true, true)] ⟨rfl, trivial⟩ ?_
      exact Goes.ret [] (.tuple #[.int .i64 1, .bool true]) fun w' hm hI => ⟨by unfold typP; rw [h0, h1] <;> rfl, bel0 hI⟩
    | false =>
      refine Goes.run [0, 0, 1, 0, 0] [(true, true), (false, false)] ⟨rfl, rfl, trivial⟩ ?_
      refine Goes.call0 19 #[cv op k t (.slice a N cc), .int .i64 2] (.bool (isOfP 2 c)) (fun w' _ hI => isOf0 2 hN (bel0 hI)) ?_
      cases h2 : isOfP 2 c with
      | true =>
        refine Goes.run [1] [(true, true)] ⟨rfl, trivial⟩ ?_
        exact Goes.ret [] (.tuple #[.int .i64 2, .bool true]) fun w' hm hI => ⟨by unfold typP; rw [h0, h1, h2] <;> rfl, bel0 hI⟩
      | false =>
        refine Goes.run [0, 0, 1, 0, 0] [(true, true), (false, false)] ⟨rfl, rfl, trivial⟩ ?_
        refine Goes.call0 19 #[cv op k t (.slice a N cc), .int .i64 4] (.bool (isOfP 4 c)) (fun w' _ hI => isOf0 4 hN (bel0 hI)) ?_
        cases h4 : isOfP 4 c with
        | true =>
          refine Goes.run [1] [(true, true)] ⟨rfl, trivial⟩ ?_
          exact Goes.ret [] (.tuple #[.int .i64 4, .bool true]) fun w' hm hI => ⟨by unfold typP; rw [h0, h1, h2, h4] <;> rfl, bel0 hI⟩
        | false =>
          refine Goes.run [0, 0, 0] [(false, false), (false, false)] ⟨rfl, rfl, trivial⟩ ?_
          exact Goes.ret [] (.tuple #[.int .i64 0, .bool false]) fun w' hm hI => ⟨by unfold typP; rw [h0, h1, h2, h4] <;> rfl, bel0 hI⟩
end Go.Proofs.Ytfblnjidghijaaa
