/- the text NValW -/
import Derived.Test.YthnojedlndblbaaGreatDoorNGj
import Derived.Test.YthnojedlndblbaaGreatDoorNGk
import Derived.Test.YthnojedlndblbaaGreatDoorNGd
namespace Go.Proofs.YthnojedlndblbaaGreatDoor
open Go Go.RowKit

set_option maxRecDepth 100000 in
seal rn rnN rnS Goes ans atEnd put0 put putM opened openedY putA0 putA oneSt st0 keep mkSt newSt in
theorem rvalue_any {fs : Fs} {fv u : Value} {c : Co} {w : World} (day : Int) (hN : Nc w.heap.size w u c) (hF : Fds w.heap.size w fv fs) (hl : ∀ f ∈ fs, f.1.length ≤ 9223372036854775807) : Calls Tryz.prog 11 #[u, .int .i64 day, fv] w fun e w' => e = .returned (vV (valR fs day c)) ∧ Below w.heap.size w w' := by
  obtain ⟨op, k, t, a, N, cc, rfl⟩ := hN.cells
  obtain ⟨aF, NF, cF, rfl⟩ : ∃ aF NF cF, fv = .slice aF NF cF := by obtain ⟨x, y, e, -⟩ := hF; exact ⟨x, _, y, e⟩
  obtain ⟨T, hTT⟩ : ∃ T, (typP c).1 = T := ⟨_, rfl⟩
  obtain ⟨B, hB⟩ : ∃ B, (typP c).2 = B := ⟨_, rfl⟩
  have hV : valR fs day c = bif B && !(T == 4) && (dayP day && rfP fs) then (valP fs day c, 0) else (none, 150) := by unfold valR; rw [hTT, hB]
  refine Goes.begin Tryz.func11 [] (fun _ => True) Holds.nil (by simp [Mem.ids]) (fun _ _ => trivial) ?_
  refine Goes.run1 [0] [] trivial fun g3 => ?_
  refine Goes.call0 24 #[cv op k t (.slice a N cc)] (.tuple #[.int .i64 T, .bool B]) (fun w' _ hI => by have := rtype_any (hN.at (bel0 hI)); rwa [hTT, hB] at this) ?_
  refine Goes.run [] [] trivial ?_
  refine Goes.call0 20 #[.slice aF NF cF] (.bool (rfP fs)) (fun w' _ hI => rfeedsR_any (hF.at (bel0 hI)) hl) ?_
  refine Goes.run [] [] trivial ?_
  refine Goes.call0 25 #[.int .i64 day] (.bool (dayP day)) (fun w' _ _ => rday_any day w') ?_
  have bad : ∀ w', Below w.heap.size w w' → (B && !(T == 4) && (dayP day && rfP fs)) = false → Ending.returned (.tuple #[.int .i64 0, .bool false, .int .i64 150]) = .returned (vV (valR fs day c)) ∧ Below w.heap.size w w' := fun w' hB h => ⟨by rw [hV, h]; rfl, hB⟩
  cases B with
  | false =>
    refine Goes.run [1, 1, 1, 1] [(true, true), (true, true), (true, true), (true, true)] ⟨rfl, rfl, rfl, rfl, trivial⟩ ?_
    exact Goes.ret [] (.tuple #[.int .i64 0, .bool false, .int .i64 150]) fun w' hm hI => bad w' (bel0 hI) rfl
  | true =>
    cases h4 : (T == 4) with
    | true =>
      refine Goes.run [0, 1, 1, 1] [(true, true), (true, true), (T == 4, true), (false, false)] ⟨rfl, rfl, h4, rfl, trivial⟩ ?_
      exact Goes.ret [] (.tuple #[.int .i64 0, .bool false, .int .i64 150]) fun w' hm hI => bad w' (bel0 hI) (by rw [h4]; rfl)
    | false =>
      cases hR : rfP fs with
      | false =>
        refine Goes.run [0, 0, 1, 1] [(true, true), (true, true), (T == 4, false), (false, false)] ⟨rfl, rfl, h4, rfl, trivial⟩ ?_
        exact Goes.ret [] (.tuple #[.int .i64 0, .bool false, .int .i64 150]) fun w' hm hI => bad w' (bel0 hI) (by rw [h4, hR, Bool.and_false]; rfl)
      | true =>
        cases hD : dayP day with
        | false =>
          refine Goes.run [0, 0, 0, 1] [(true, true), (false, false), (T == 4, false), (false, false)] ⟨rfl, rfl, h4, rfl, trivial⟩ ?_
          exact Goes.ret [] (.tuple #[.int .i64 0, .bool false, .int .i64 150]) fun w' hm hI => bad w' (bel0 hI) (by rw [h4, hR, hD]; rfl)
        | true =>
          have ht := typ_full hB
          rw [hTT] at ht
          refine Goes.run [0, 0, 0, 0, 0] [(false, false), (false, false), (T == 4, false), (false, false)] ⟨rfl, rfl, h4, rfl, trivial⟩ ?_
          refine Goes.call0 26 #[cv op k t (.slice a N cc), .int .i64 day, .slice aF NF cF] (oV (valP fs day c)) (fun w' _ hI => val_any day c _ w' (ob_right c _ _ ht (fun e => by rw [e] at h4; cases h4)) (hN.at (bel0 hI)) (hF.at (bel0 hI))) ?_
          refine Goes.run [] [] trivial ?_
          exact Goes.ret [] (vV (valP fs day c, 0)) fun w' hm hI => ⟨by rw [hV, h4, hR, hD]; rfl, bel0 hI⟩
set_option maxRecDepth 100000 in
seal rn rnN rnS Goes ans atEnd put0 put putM opened openedY putA0 putA oneSt st0 keep mkSt newSt in
theorem values_walk {fs : Fs} {fv u : Value} {c : Co} {w : World} (day : Int) (hT : Tab w) (htl : 1 < w.heap.size) (hN : Nc w.heap.size w u c) (hF : Fds w.heap.size w fv fs) (hl : ∀ f ∈ fs, f.1.length ≤ 9223372036854775807) : Calls Tryz.prog 3 #[u, .int .i64 day, fv] w fun e w' => e = .returned (.bool true) ∧ Below w.heap.size w w' := by
  obtain ⟨op, k, t, a, N, cc, rfl⟩ := hN.cells
  obtain ⟨aF, NF, cF, rfl⟩ : ∃ aF NF cF, fv = .slice aF NF cF := by obtain ⟨x, y, e, -⟩ := hF; exact ⟨x, _, y, e⟩
  obtain ⟨r, hr⟩ : ∃ r, valR fs day c = r := ⟨_, rfl⟩
  obtain ⟨x, hx⟩ : ∃ x, r.1.getD 0 = x := ⟨_, rfl⟩
  obtain ⟨y, hy⟩ : ∃ y, r.1.isSome = y := ⟨_, rfl⟩
  obtain ⟨z, hz⟩ : ∃ z, r.2 = z := ⟨_, rfl⟩
  have hv : vV (valR fs day c) = .tuple #[.int .i64 x, .bool y, .int .i64 z] := by unfold vV; rw [hr, hx, hy, hz]
  refine Goes.begin Tryz.func3 [] (fun _ => True) Holds.nil (by simp [Mem.ids]) (fun _ _ => trivial) ?_
  refine Goes.run1 [] [] trivial fun g3 => ?_
  refine Goes.call0 9 #[] (.bool true) (fun w' _ hI => shownd_any w' (hT.below (bel0 hI)) (Nat.lt_of_lt_of_le htl (bel0 hI).size)) ?_
  refine Goes.run [0] [] trivial ?_
  refine Goes.call0 10 #[cv op k t (.slice a N cc), .int .i64 day, .slice aF NF cF] (.tuple #[.int .i64 x, .bool y, .int .i64 z]) (fun w' _ hI => by have := pvalue_any day (hT.below (bel0 hI)) (hN.at (bel0 hI)) (hF.at (bel0 hI)) hl; rwa [hv] at this) ?_
  refine Goes.run [0] [] trivial ?_
  refine Goes.call0 11 #[cv op k t (.slice a N cc), .int .i64 day, .slice aF NF cF] (.tuple #[.int .i64 x, .bool y, .int .i64 z]) (fun w' _ hI => by have := rvalue_any day (hN.at (bel0 hI)) (hF.at (bel0 hI)) hl; rwa [hv] at this) ?_
  refine Goes.upto 36 [1] [(true, true)] ⟨rfl, trivial⟩ ?_
  refine Goes.slot 35 (.bool true) (u := .bool (x == x)) (congrArg _ (beq_self_eq_true x)) ?_
  refine Goes.upto 41 [1] [(true, true)] ⟨rfl, trivial⟩ ?_
  refine Goes.slot 40 (.bool true) (u := .bool (y == y)) (congrArg _ (beq_self_eq_true y)) ?_
  refine Goes.upto 46 [1] [(true, true)] ⟨rfl, trivial⟩ ?_
  refine Goes.slot 45 (.bool true) (u := .bool (z == z)) (congrArg _ (beq_self_eq_true z)) ?_
  refine Goes.run [] [] trivial ?_
  exact Goes.ret [] (.bool true) fun w' hm hI => ⟨rfl, bel0 hI⟩
end Go.Proofs.YthnojedlndblbaaGreatDoor
