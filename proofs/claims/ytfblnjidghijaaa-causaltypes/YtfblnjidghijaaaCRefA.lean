/- The document's side of causal: names and currencies. -/
import Derived.Test.YtfblnjidghijaaaCOwn2
namespace Go.Proofs.Ytfblnjidghijaaa
open Go Go.RowKit

set_option maxRecDepth 100000 in
seal rn Goes ans atEnd put0 putM opened putA0 oneSt st0 in
theorem rsmall_any : Srt 79 cLet := by
  intro z w
  refine Goes.begin Try.func79 [] (fun _ => True) Holds.nil (by simp [Mem.ids]) (fun _ _ => trivial) ?_
  cases h : decide ((97 : Int) ≤ z) with
  | true =>
    refine Goes.run [1] [(decide ((97 : Int) ≤ z), true)] ⟨h, trivial⟩ ?_
    exact Goes.ret [] (.bool (decide (z ≤ 122))) fun w' hm hI => ⟨by simp only [cLet, h, Bool.true_and], bel0 hI⟩
  | false =>
    refine Goes.run [0] [(decide ((97 : Int) ≤ z), false)] ⟨h, trivial⟩ ?_
    exact Goes.ret [] (.bool false) fun w' hm hI => ⟨by simp only [cLet, h, Bool.false_and], bel0 hI⟩
set_option maxRecDepth 100000 in
seal rn Goes ans atEnd put0 putM opened putA0 oneSt st0 in
theorem rdigit_any : Srt 86 cDig := by
  intro z w
  refine Goes.begin Try.func86 [] (fun _ => True) Holds.nil (by simp [Mem.ids]) (fun _ _ => trivial) ?_
  cases h : decide ((48 : Int) ≤ z) with
  | true =>
    refine Goes.run [1] [(decide ((48 : Int) ≤ z), true)] ⟨h, trivial⟩ ?_
    exact Goes.ret [] (.bool (decide (z ≤ 57))) fun w' hm hI => ⟨by simp only [cDig, h, Bool.true_and], bel0 hI⟩
  | false =>
    refine Goes.run [0] [(decide ((48 : Int) ≤ z), false)] ⟨h, trivial⟩ ?_
    exact Goes.ret [] (.bool false) fun w' hm hI => ⟨by simp only [cDig, h, Bool.false_and], bel0 hI⟩
set_option maxRecDepth 100000 in
seal rn Goes ans atEnd put0 putM opened putA0 oneSt st0 in
theorem rinner_any : Srt 80 cIn := by
  intro z w
  refine Goes.begin Try.func80 [] (fun _ => True) Holds.nil (by simp [Mem.ids]) (fun _ _ => trivial) ?_
  refine Goes.run [] [] trivial ?_
  refine Goes.call0 79 #[.int .u8 z] (.bool (cLet z)) (fun w' _ _ => rsmall_any z w') ?_
  cases h : cLet z with
  | true =>
    refine Goes.run [1, 1] [(true, true), (true, true)] ⟨rfl, rfl, trivial⟩ ?_
    exact Goes.ret [] (.bool true) fun w' hm hI => ⟨by simp only [cIn, h, Bool.true_or], bel0 hI⟩
  | false =>
    refine Goes.run [0] [(false, false)] ⟨rfl, trivial⟩ ?_
    refine Goes.call0 86 #[.int .u8 z] (.bool (cDig z)) (fun w' _ _ => rdigit_any z w') ?_
    cases h2 : cDig z with
    | true =>
      refine Goes.run [1] [(true, true)] ⟨rfl, trivial⟩ ?_
      exact Goes.ret [] (.bool true) fun w' hm hI => ⟨by simp only [cIn, h, h2, Bool.true_or, Bool.false_or], bel0 hI⟩
    | false =>
      refine Goes.run [0] [(false, false)] ⟨rfl, trivial⟩ ?_
      exact Goes.ret [] (.bool (z == 95)) fun w' hm hI => ⟨by simp only [cIn, h, h2, Bool.false_or], bel0 hI⟩
def tkIn (l : List UInt8) : Nat := (l.takeWhile fun y => cIn (y.toNat : Nat)).length
def spanL : List UInt8 → Nat
  | [] => 0
  | x :: r => bif cLet (x.toNat : Nat) then 1 + tkIn r else 0
set_option maxRecDepth 100000 in
seal rn Goes ans atEnd put0 putM opened putA0 oneSt st0 in
theorem rspan_any (l : List UInt8) (w : World) (hl : l.length ≤ 9223372036854775807) : Calls Try.prog 69 #[strV l, .int .i64 0] w fun e w' => e = .returned (.int .i64 (spanL l : Nat)) ∧ Below w.heap.size w w' := by
  refine Goes.begin Try.func69 [] (fun _ => True) Holds.nil (by simp [Mem.ids]) (fun _ _ => trivial) ?_
  cases h0 : decide ((0 : Int) ≥ (l.length : Int)) with
  | true =>
    obtain rfl : l = [] := List.eq_nil_of_length_eq_zero (by have := of_decide_eq_true h0; omega)
    refine Goes.run [1] [(true, true)] ⟨rfl, trivial⟩ ?_
    exact Goes.ret [] (.int .i64 0) fun w' hm hI => ⟨rfl, bel0 hI⟩
  | false =>
    have hp : 0 < l.length := by have := of_decide_eq_false h0; omega
    obtain ⟨x, hx⟩ : ∃ x, l[0]? = some x := ⟨l[0], by simp⟩
    have hs : spanL l = bif cLet (x.toNat : Nat) then 1 + tkIn (l.drop 1) else 0 := by
      cases l with
      | nil => cases hx
      | cons y r => cases hx; rfl
    refine Goes.run [0] [(decide ((0 : Int) ≥ (l.length : Int)), false)] ⟨h0, trivial⟩ ?_
    refine Goes.val (Instr.index 9 (strV l) (.int .i64 (0 : Nat))) (.int .u8 (x.toNat : Nat)) (fun w' _ _ => idxB hx w') ?_
    refine Goes.call0 79 #[.int .u8 (x.toNat : Nat)] (.bool (cLet (x.toNat : Nat))) (fun w' _ _ => rsmall_any _ w') ?_
    cases h : cLet (x.toNat : Nat) with
    | false =>
      refine Goes.run [1] [(true, true)] ⟨rfl, trivial⟩ ?_
      exact Goes.ret [] (.int .i64 0) fun w' hm hI => ⟨by rw [hs, h]; rfl, bel0 hI⟩
    | true =>
      refine Goes.run [0] [(false, false)] ⟨rfl, trivial⟩ ?_
      rw [hs, h, cond_true]
      refine Goes.loop0 (α := Nat) 34 (fun j => [(0, strV l), (1, .int .i64 0), (6, .int .i64 j)]) [] (fun j => 1 + tkIn (l.drop 1) = j + tkIn (l.drop j) ∧ j ≤ l.length) (fun j => l.length - j) 1 ⟨rfl, by omega⟩ ?_
      rintro j J ⟨hj, hj2⟩ back
      have hz : IntKind.i64.wrap (0 + (j : Int)) = (j : Int) := by rw [IntWalk.i64_in _ ⟨by omega, by omega⟩]; omega
      cases hlt : decide ((j : Int) < (l.length : Int)) with
      | false =>
        refine Goes.run [0, 0, 0] [(false, false), (decide (IntKind.i64.wrap (0 + (j : Int)) < (l.length : Int)), false)] ⟨rfl, by rw [hz]; exact hlt, trivial⟩ ?_
        exact Goes.ret [] (.int .i64 j) fun w' hm hI => ⟨by rw [hj, List.drop_of_length_le (by have := of_decide_eq_false hlt; omega)]; rfl, bel0 hI⟩
      | true =>
        have hjl : j < l.length := by have := of_decide_eq_true hlt; omega
        obtain ⟨y, hy⟩ : ∃ y, l[j]? = some y := ⟨l[j], by simp⟩
        have hd : l.drop j = y :: l.drop (j + 1) := by
          obtain ⟨h1, h2⟩ := List.getElem?_eq_some_iff.1 hy
          rw [List.drop_eq_getElem_cons h1, h2]
        refine Goes.run [0, 1] [(decide (IntKind.i64.wrap (0 + (j : Int)) < (l.length : Int)), true)] ⟨by rw [hz]; exact hlt, trivial⟩ ?_
        refine Goes.val (Instr.index 9 (strV l) (.int .i64 (IntKind.i64.wrap (0 + (j : Int))))) (.int .u8 (y.toNat : Nat)) (fun w' _ _ => by rw [hz]; exact idxB hy w') ?_
        refine Goes.call0 80 #[.int .u8 (y.toNat : Nat)] (.bool (cIn (y.toNat : Nat))) (fun w' _ _ => rinner_any _ w') ?_
        cases hc : cIn (y.toNat : Nat) with
        | false =>
          refine Goes.run [0] [(false, false)] ⟨rfl, trivial⟩ ?_
          exact Goes.ret [] (.int .i64 j) fun w' hm hI => ⟨by rw [hj, hd]; simp [tkIn, hc], bel0 hI⟩
        | true =>
          refine Goes.run [1] [(true, true)] ⟨rfl, trivial⟩ ?_
          refine Goes.slot 6 (.int .i64 (j + 1 : Nat)) (u := .int .i64 (IntKind.i64.wrap ((j : Int) + 1))) (congrArg _ (wrap_nat (by omega))) ?_
          exact back (j + 1) _ ⟨by rw [hj, hd]; simp only [tkIn, List.takeWhile_cons, hc, if_true, List.length_cons]; omega, by omega⟩ (by omega) (by kernel_rfl) (by kernel_rfl) (by kernel_rfl)
theorem tk_all (l : List UInt8) : (tkIn l == l.length) = allB cIn l := by
  unfold tkIn allB
  induction l with
  | nil => rfl
  | cons x r ih =>
    cases h : cIn (x.toNat : Nat) with
    | true => simp only [List.takeWhile_cons, List.all_cons, h, if_true, List.length_cons, Bool.true_and, ← ih]; rw [Bool.eq_iff_iff, beq_iff_eq, beq_iff_eq]; omega
    | false => simp [h]
theorem span_name (l : List UInt8) (h0 : 0 < l.length) : (((spanL l : Nat) : Int) == (l.length : Int)) = (cLet ((l.getD 0 0).toNat : Nat) && allB cIn l) := by
  cases l with
  | nil => simp at h0
  | cons x r =>
    have e : (((spanL (x :: r) : Nat) : Int) == ((x :: r).length : Int)) = (spanL (x :: r) == (x :: r).length) := by
      rw [Bool.eq_iff_iff, beq_iff_eq, beq_iff_eq]; omega
    rw [e]
    simp only [spanL, List.getD_cons_zero]
    cases h : cLet (x.toNat : Nat) with
    | false => simp
    | true =>
      have h2 : cIn (x.toNat : Nat) = true := by simp only [cIn, h, Bool.true_or]
      simp only [cond_true, Bool.true_and, List.length_cons]
      have := tk_all r
      unfold allB at this ⊢
      rw [List.all_cons, h2, Bool.true_and, ← this, Bool.eq_iff_iff, beq_iff_eq, beq_iff_eq]
      omega
set_option maxRecDepth 100000 in
seal rn Goes ans atEnd put0 putM opened putA0 oneSt st0 in
theorem rname_any (l : List UInt8) (w : World) (hl : l.length ≤ 9223372036854775807) : Calls Try.prog 50 #[strV l] w fun e w' => e = .returned (.bool (namP l)) ∧ Below w.heap.size w w' := by
  refine Goes.begin Try.func50 [] (fun _ => True) Holds.nil (by simp [Mem.ids]) (fun _ _ => trivial) ?_
  cases h0 : decide ((0 : Int) < (l.length : Int)) with
  | false =>
    refine Goes.run [0, 0] [(false, false), (decide ((0 : Int) < (l.length : Int)), false)] ⟨rfl, h0, trivial⟩ ?_
    exact Goes.ret [] (.bool false) fun w' hm hI => ⟨by simp only [namP, h0, Bool.false_and], bel0 hI⟩
  | true =>
    cases h1 : decide ((l.length : Int) ≤ 24) with
    | false =>
      refine Goes.run [1, 0] [(decide ((l.length : Int) ≤ 24), false), (decide ((0 : Int) < (l.length : Int)), true)] ⟨h1, h0, trivial⟩ ?_
      exact Goes.ret [] (.bool false) fun w' hm hI => ⟨by simp only [namP, h0, h1, Bool.true_and, Bool.false_and], bel0 hI⟩
    | true =>
      refine Goes.run [1, 1] [(decide ((l.length : Int) ≤ 24), true), (decide ((0 : Int) < (l.length : Int)), true)] ⟨h1, h0, trivial⟩ ?_
      refine Goes.call0 69 #[strV l, .int .i64 0] (.int .i64 (spanL l : Nat)) (fun w' _ _ => rspan_any l w' hl) ?_
      refine Goes.run [] [] trivial ?_
      exact Goes.ret [] (.bool (((spanL l : Nat) : Int) == (l.length : Int))) fun w' hm hI => ⟨by rw [span_name l (by have := of_decide_eq_true h0; omega)]; simp only [namP, h0, h1, Bool.true_and], bel0 hI⟩
set_option maxRecDepth 100000 in
seal rn Goes ans atEnd put0 putM opened putA0 oneSt st0 in
theorem rcur_any (l : List UInt8) (w : World) : Calls Try.prog 51 #[strV l] w fun e w' => e = .returned (.bool (curP l)) ∧ Below w.heap.size w w' := by
  refine Goes.begin Try.func51 [] (fun _ => True) Holds.nil (by simp [Mem.ids]) (fun _ _ => trivial) ?_
  cases h : ((l.length : Int) == 3) with
  | false =>
    refine Goes.run [1] [((l.length : Int) != 3, true)] ⟨by simp only [bne, h, Bool.not_false], trivial⟩ ?_
    exact Goes.ret [] (.bool false) fun w' hm hI => ⟨by simp only [curP, h, Bool.false_and], bel0 hI⟩
  | true =>
    have h3 : l.length = 3 := by have := eq_of_beq h; omega
    refine Goes.run [0] [((l.length : Int) != 3, false)] ⟨by simp only [bne, h, Bool.not_true], trivial⟩ ?_
    have hs : curP l = allB cCap l := by simp only [curP, h, Bool.true_and]
    rw [hs]
    refine Goes.loop0 (α := Nat) 21 (fun j => [(0, strV l), (3, .int .i64 j)]) [] (fun j => allB cCap (l.drop j) = allB cCap l ∧ j ≤ 3) (fun j => 3 - j) 0 ⟨rfl, Nat.zero_le _⟩ ?_
    rintro j J ⟨hj, hj2⟩ back
    cases hlt : decide ((j : Int) < (3 : Int)) with
    | false =>
      refine Goes.run [0, 0] [(decide ((j : Int) < (3 : Int)), false)] ⟨hlt, trivial⟩ ?_
      exact Goes.ret [] (.bool true) fun w' hm hI => ⟨by rw [← hj, List.drop_of_length_le (by have := of_decide_eq_false hlt; omega)]; rfl, bel0 hI⟩
    | true =>
      have hjl : j < 3 := by have := of_decide_eq_true hlt; omega
      obtain ⟨y, hy⟩ : ∃ y, l[j]? = some y := ⟨l[j]'(by omega), by simp⟩
      have hd : l.drop j = y :: l.drop (j + 1) := by
        obtain ⟨h1, h2⟩ := List.getElem?_eq_some_iff.1 hy
        rw [List.drop_eq_getElem_cons h1, h2]
      refine Goes.run [0, 1] [(decide ((j : Int) < (3 : Int)), true)] ⟨hlt, trivial⟩ ?_
      refine Goes.val (Instr.index 9 (strV l) (.int .i64 j)) (.int .u8 (y.toNat : Nat)) (fun w' _ _ => idxB hy w') ?_
      cases hc1 : decide (((y.toNat : Nat) : Int) < 65) with
      | true =>
        refine Goes.run [1, 1] [(true, true), (decide (((y.toNat : Nat) : Int) < 65), true)] ⟨rfl, hc1, trivial⟩ ?_
        exact Goes.ret [] (.bool false) fun w' hm hI => ⟨by
          have h2 : cCap (y.toNat : Nat) = false := by unfold cCap; have := of_decide_eq_true hc1; rw [decide_eq_false (by omega)]; rfl
          rw [← hj, hd]; simp [allB, h2], bel0 hI⟩
      | false =>
        refine Goes.run [0] [(decide (((y.toNat : Nat) : Int) < 65), false)] ⟨hc1, trivial⟩ ?_
        refine Goes.val (Instr.index 9 (strV l) (.int .i64 j)) (.int .u8 (y.toNat : Nat)) (fun w' _ _ => idxB hy w') ?_
        have h65 := of_decide_eq_false hc1
        cases hc2 : decide (((y.toNat : Nat) : Int) > 90) with
        | true =>
          refine Goes.run [1] [(decide (((y.toNat : Nat) : Int) > 90), true)] ⟨hc2, trivial⟩ ?_
          exact Goes.ret [] (.bool false) fun w' hm hI => ⟨by
            have h2 : cCap (y.toNat : Nat) = false := by unfold cCap; have := of_decide_eq_true hc2; rw [decide_eq_false (p := _ ≤ (90 : Int)) (by omega), Bool.and_false]
            rw [← hj, hd]; simp [allB, h2], bel0 hI⟩
        | false =>
          refine Goes.run [0] [(decide (((y.toNat : Nat) : Int) > 90), false)] ⟨hc2, trivial⟩ ?_
          refine Goes.slot 3 (.int .i64 (j + 1 : Nat)) (u := .int .i64 (IntKind.i64.wrap ((j : Int) + 1))) (congrArg _ (wrap_nat (by omega))) ?_
          have h2 : cCap (y.toNat : Nat) = true := by unfold cCap; have := of_decide_eq_false hc2; rw [decide_eq_true (by omega), decide_eq_true (by omega)]; rfl
          exact back (j + 1) _ ⟨by rw [← hj, hd]; simp [allB, h2], by omega⟩ (by omega) (by kernel_rfl) (by kernel_rfl) (by kernel_rfl)
end Go.Proofs.Ytfblnjidghijaaa
