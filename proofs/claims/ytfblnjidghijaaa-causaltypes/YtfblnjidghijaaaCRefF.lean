/- The document's side of causal: are N and S what an operation asks? -/
import Derived.Test.YtfblnjidghijaaaCRefA
import Derived.Test.YtfblnjidghijaaaEFork
namespace Go.Proofs.Ytfblnjidghijaaa
open Go Go.RowKit

theorem neE (l : List UInt8) (w : World) : (do eqGuard .neq 9 (.tmp 52) (.const (strV [])) (strV l) (strV []); binOp .neq 9 (strV l) (strV []) : Sem Value).run Try.prog w = .ok (.bool (!decide (l = []))) w := by
  have : (eqGuard .neq 9 (.tmp 52) (.const (strV [])) (strV l) (strV [])).run Try.prog w = .ok () w := by
    unfold eqGuard strV; go_simp
  simp only [Sem.run_bind, this, Result.andThen_ok, neqS l [] (!decide (l = [])) (by simp) w]
def fldP (op k : Int) (t : List UInt8) : Bool :=
  bif op == 4 then namP t && inW k (-3660) 3660 else bif op == 31 then namP t && inW k 0 73048 else bif op == 24 then curP t && k == 0 else
  bif !decide (t = []) then false else bif op == 1 then inW k (-1000000000000000) 1000000000000000 else bif op == 2 then k == 0 || k == 1 else bif op == 3 || op == 29 || op == 30 then inW k 0 73048 else bif op == 5 then inW k (-3660) 3660 else k == 0
set_option maxRecDepth 100000 in
seal rn rnS Goes ans atEnd put0 putM opened putA0 oneSt st0 in
theorem fld_any (op k : Int) (t : List UInt8) (a : Option Addr) (N c : Nat) (w : World) (ht : t.length ≤ 9223372036854775807) : Calls Try.prog 38 #[cv op k t (.slice a N c)] w fun e w' => e = .returned (.bool (fldP op k t)) ∧ Below w.heap.size w w' := by
  refine Goes.begin Try.func38 [] (fun _ => True) Holds.nil (by simp [Mem.ids]) (fun _ _ => trivial) ?_
  refine Goes.run1 [0] [] trivial fun g => ?_
  refine Goes.call0 50 #[strV t] (.bool (namP t)) (fun w' _ _ => rname_any t w' ht) ?_
  refine Goes.run [0] [] trivial ?_
  refine Goes.call0 51 #[strV t] (.bool (curP t)) (fun w' _ _ => rcur_any t w') ?_
  refine Goes.fork (decide (0 ≤ k)) 21 87 [(1, .pointer (some ⟨g, 0, none⟩)), (3, .bool (namP t)), (4, .bool (curP t)), (5, .bool (inW k 0 73048))]
    [(1, .pointer (some ⟨g, 0, none⟩)), (3, .bool (namP t)), (4, .bool (curP t)), (5, .bool (decide (k ≤ 73048)))] [(1, .pointer (some ⟨g, 0, none⟩)), (3, .bool (namP t)), (4, .bool (curP t)), (5, .bool false)] [0, 1, 0] [0, 0] [(decide (0 ≤ k), true)] [(decide (0 ≤ k), false)]
    (fun h => ⟨by simp only [inW, h, Bool.true_and], h, trivial⟩) (fun h => ⟨by simp only [inW, h, Bool.false_and], h, trivial⟩) fun J1 => ?_
  refine Goes.fork (decide (-3660 ≤ k)) 29 87 [(1, .pointer (some ⟨g, 0, none⟩)), (3, .bool (namP t)), (4, .bool (curP t)), (5, .bool (inW k 0 73048)), (6, .bool (inW k (-3660) 3660))]
    [(1, .pointer (some ⟨g, 0, none⟩)), (3, .bool (namP t)), (4, .bool (curP t)), (5, .bool (inW k 0 73048)), (6, .bool (decide (k ≤ 3660)))] [(1, .pointer (some ⟨g, 0, none⟩)), (3, .bool (namP t)), (4, .bool (curP t)), (5, .bool (inW k 0 73048)), (6, .bool false)] [0, 1, 0] [0, 0] [(decide (-3660 ≤ k), true)] [(decide (-3660 ≤ k), false)]
    (fun h => ⟨by simp only [inW, h, Bool.true_and], h, trivial⟩) (fun h => ⟨by simp only [inW, h, Bool.false_and], h, trivial⟩) fun J2 => ?_
  cases h4 : (op == 4) with
  | true =>
    have e : fldP op k t = (namP t && inW k (-3660) 3660) := by unfold fldP; rw [h4] <;> rfl
    rw [e]
    cases hn : namP t with
    | true =>
      refine Goes.run [0, 1, 1] [(true, true), (op == 4, true)] ⟨rfl, h4, trivial⟩ ?_
      exact Goes.ret [] (.bool (inW k (-3660) 3660)) fun w' hm hI => ⟨by rw [Bool.true_and], bel0 hI⟩
    | false =>
      refine Goes.run [0, 1, 0] [(false, false), (op == 4, true)] ⟨rfl, h4, trivial⟩ ?_
      exact Goes.ret [] (.bool false) fun w' hm hI => ⟨by rw [Bool.false_and], bel0 hI⟩
  | false =>
  cases h31 : (op == 31) with
  | true =>
    have e : fldP op k t = (namP t && inW k 0 73048) := by unfold fldP; rw [h4, h31] <;> rfl
    rw [e]
    cases hn : namP t with
    | true =>
      refine Goes.run [0, 0, 1, 1] [(true, true), (op == 31, true), (op == 4, false)] ⟨rfl, h31, h4, trivial⟩ ?_
      exact Goes.ret [] (.bool (inW k 0 73048)) fun w' hm hI => ⟨by rw [Bool.true_and], bel0 hI⟩
    | false =>
      refine Goes.run [0, 0, 1, 0] [(false, false), (op == 31, true), (op == 4, false)] ⟨rfl, h31, h4, trivial⟩ ?_
      exact Goes.ret [] (.bool false) fun w' hm hI => ⟨by rw [Bool.false_and], bel0 hI⟩
  | false =>
  cases h24 : (op == 24) with
  | true =>
    have e : fldP op k t = (curP t && k == 0) := by unfold fldP; rw [h4, h31, h24] <;> rfl
    rw [e]
    cases hn : curP t with
    | true =>
      refine Goes.run [0, 0, 0, 1, 1, 0] [(true, true), (op == 24, true), (op == 31, false), (op == 4, false)] ⟨rfl, h24, h31, h4, trivial⟩ ?_
      exact Goes.ret [] (.bool (k == 0)) fun w' hm hI => ⟨by rw [Bool.true_and], bel0 hI⟩
    | false =>
      refine Goes.run [0, 0, 0, 1, 0] [(false, false), (op == 24, true), (op == 31, false), (op == 4, false)] ⟨rfl, h24, h31, h4, trivial⟩ ?_
      exact Goes.ret [] (.bool false) fun w' hm hI => ⟨by rw [Bool.false_and], bel0 hI⟩
  | false =>
  refine Goes.upto 53 [0, 0, 0, 0, 0] [(op == 24, false), (op == 31, false), (op == 4, false)] ⟨h24, h31, h4, trivial⟩ ?_
  refine Goes.val (do eqGuard .neq 9 (.tmp 52) (.const (strV [])) (strV t) (strV []); binOp .neq 9 (strV t) (strV [])) (.bool (!decide (t = []))) (fun w' _ _ => neE t w') ?_
  cases hs : decide (t = []) with
  | false =>
    refine Goes.run [1] [(true, true)] ⟨rfl, trivial⟩ ?_
    exact Goes.ret [] (.bool false) fun w' hm hI => ⟨by unfold fldP; rw [h4, h31, h24, hs] <;> rfl, bel0 hI⟩
  | true =>
  cases h1 : (op == 1) with
  | true =>
    have e : fldP op k t = inW k (-1000000000000000) 1000000000000000 := by unfold fldP; rw [h4, h31, h24, hs, h1] <;> rfl
    rw [e]
    cases hk : decide (-1000000000000000 ≤ k) with
    | true =>
      refine Goes.run [0, 0, 1, 0, 1, 0] [(decide (-1000000000000000 ≤ k), true), (op == 1, true), (false, false)] ⟨hk, h1, rfl, trivial⟩ ?_
      exact Goes.ret [] (.bool (decide (k ≤ 1000000000000000))) fun w' hm hI => ⟨by simp only [inW, hk, Bool.true_and], bel0 hI⟩
    | false =>
      refine Goes.run [0, 0, 1, 0, 0] [(decide (-1000000000000000 ≤ k), false), (op == 1, true), (false, false)] ⟨hk, h1, rfl, trivial⟩ ?_
      exact Goes.ret [] (.bool false) fun w' hm hI => ⟨by simp only [inW, hk, Bool.false_and], bel0 hI⟩
  | false =>
  cases h2 : (op == 2) with
  | true =>
    have e : fldP op k t = (k == 0 || k == 1) := by unfold fldP; rw [h4, h31, h24, hs, h1, h2] <;> rfl
    rw [e]
    cases hk : (k == 0) with
    | true =>
      refine Goes.run [0, 0, 0, 1, 0, 1] [(k == 0, true), (op == 2, true), (op == 1, false), (false, false)] ⟨hk, h2, h1, rfl, trivial⟩ ?_
      exact Goes.ret [] (.bool true) fun w' hm hI => ⟨by rw [Bool.true_or], bel0 hI⟩
    | false =>
      refine Goes.run [0, 0, 0, 1, 0, 0, 0] [(k == 0, false), (op == 2, true), (op == 1, false), (false, false)] ⟨hk, h2, h1, rfl, trivial⟩ ?_
      exact Goes.ret [] (.bool (k == 1)) fun w' hm hI => ⟨by rw [Bool.false_or], bel0 hI⟩
  | false =>
  cases h3 : (op == 3) with
  | true =>
    refine Goes.run [0, 0, 0, 0, 1, 1] [(op == 3, true), (op == 3, true), (op == 2, false), (op == 1, false), (false, false)] ⟨h3, h3, h2, h1, rfl, trivial⟩ ?_
    exact Goes.ret [] (.bool (inW k 0 73048)) fun w' hm hI => ⟨by unfold fldP; rw [h4, h31, h24, hs, h1, h2, h3] <;> rfl, bel0 hI⟩
  | false =>
  cases h29 : (op == 29) with
  | true =>
    refine Goes.run [0, 0, 0, 0, 0, 1, 1] [(op == 29, true), (op == 29, true), (op == 3, false), (op == 2, false), (op == 1, false), (false, false)] ⟨h29, h29, h3, h2, h1, rfl, trivial⟩ ?_
    exact Goes.ret [] (.bool (inW k 0 73048)) fun w' hm hI => ⟨by unfold fldP; rw [h4, h31, h24, hs, h1, h2, h3, h29] <;> rfl, bel0 hI⟩
  | false =>
  cases h30 : (op == 30) with
  | true =>
    refine Goes.run [0, 0, 0, 0, 0, 0, 1] [(op == 30, true), (op == 29, false), (op == 3, false), (op == 2, false), (op == 1, false), (false, false)] ⟨h30, h29, h3, h2, h1, rfl, trivial⟩ ?_
    exact Goes.ret [] (.bool (inW k 0 73048)) fun w' hm hI => ⟨by unfold fldP; rw [h4, h31, h24, hs, h1, h2, h3, h29, h30] <;> rfl, bel0 hI⟩
  | false =>
  cases h5 : (op == 5) with
  | true =>
    refine Goes.run [0, 0, 0, 0, 0, 0, 0, 1] [(op == 5, true), (op == 30, false), (op == 29, false), (op == 3, false), (op == 2, false), (op == 1, false), (false, false)] ⟨h5, h30, h29, h3, h2, h1, rfl, trivial⟩ ?_
    exact Goes.ret [] (.bool (inW k (-3660) 3660)) fun w' hm hI => ⟨by unfold fldP; rw [h4, h31, h24, hs, h1, h2, h3, h29, h30, h5] <;> rfl, bel0 hI⟩
  | false =>
    refine Goes.run [0, 0, 0, 0, 0, 0, 0, 0, 0] [(op == 5, false), (op == 30, false), (op == 29, false), (op == 3, false), (op == 2, false), (op == 1, false), (false, false)] ⟨h5, h30, h29, h3, h2, h1, rfl, trivial⟩ ?_
    exact Goes.ret [] (.bool (k == 0)) fun w' hm hI => ⟨by unfold fldP; rw [h4, h31, h24, hs, h1, h2, h3, h29, h30, h5] <;> rfl, bel0 hI⟩
/-- Both ask the same. -/
theorem fld_own (op k : Int) (t : List UInt8) : fldP op k t = ownC op k t := by
  unfold fldP ownC ownN ownS dateP lookP
  by_cases e4 : op = 4
  · subst e4; simp [Bool.and_comm]
  by_cases e31 : op = 31
  · subst e31; simp [Bool.and_comm]
  by_cases e24 : op = 24
  · subst e24; simp [Bool.and_comm]
  have h4 : (op == 4) = false := by simpa using e4
  have h31 : (op == 31) = false := by simpa using e31
  have h24 : (op == 24) = false := by simpa using e24
  simp only [h4, h31, h24, cond_false, Bool.or_false, Bool.false_or]
  cases hs : decide (t = []) with
  | false => simp
  | true =>
    simp only [Bool.not_true, cond_false, Bool.and_true]
    by_cases e2 : op = 2
    · subst e2
      have : (k == 0 || k == 1) = inW k 0 1 := by
        unfold inW
        rw [Bool.eq_iff_iff]
        simp only [Bool.or_eq_true, beq_iff_eq, Bool.and_eq_true, decide_eq_true_eq]
        omega
      simpa using this
    have h2 : (op == 2) = false := by simpa using e2
    simp only [h2, cond_false, Bool.or_assoc]
end Go.Proofs.Ytfblnjidghijaaa
