/- causal: a term's own N and S, its days, its looks. -/
import Derived.Test.YtfblnjidghijaaaCOwn
import Derived.Test.YtfblnjidghijaaaEStop
namespace Go.Proofs.Ytfblnjidghijaaa
open Go Go.RowKit

def inW (n a b : Int) : Bool := decide (a ≤ n) && decide (n ≤ b)
set_option maxRecDepth 100000 in
seal rn rnS Goes ans atEnd put0 putM opened putA0 oneSt st0 in
theorem inW_any (n a b : Int) (w : World) : Calls Try.prog 76 #[.int .i64 n, .int .i64 a, .int .i64 b] w fun e w' => e = .returned (.bool (inW n a b)) ∧ Below w.heap.size w w' := by
  refine Goes.begin Try.func76 [] (fun _ => True) Holds.nil (by simp [Mem.ids]) (fun _ _ => trivial) ?_
  cases h : decide (a ≤ n) with
  | true =>
    refine Goes.run [1] [(decide (a ≤ n), true)] ⟨h, trivial⟩ ?_
    exact Goes.ret [] (.bool (decide (n ≤ b))) fun w' hm hI => ⟨by simp only [inW, h, Bool.true_and], bel0 hI⟩
  | false =>
    refine Goes.run [0] [(decide (a ≤ n), false)] ⟨h, trivial⟩ ?_
    exact Goes.ret [] (.bool false) fun w' hm hI => ⟨by simp only [inW, h, Bool.false_and], bel0 hI⟩
section
variable (op k : Int) (t : List UInt8) (a : Option Addr) (N c : Nat) (w : World)
def lookP (op : Int) : Bool := op == 4 || op == 5
set_option maxRecDepth 100000 in
seal rn rnS Goes ans atEnd put0 putM opened putA0 oneSt st0 in
theorem look_any : Calls Try.prog 24 #[cv op k t (.slice a N c)] w fun e w' => e = .returned (.bool (lookP op)) ∧ Below w.heap.size w w' := by
  refine Goes.begin Try.func24 [] (fun _ => True) Holds.nil (by simp [Mem.ids]) (fun _ _ => trivial) ?_
  cases h : (op == 4) with
  | true =>
    refine Goes.run1 [0, 1] [(op == 4, true)] ⟨h, trivial⟩ fun g => ?_
    exact Goes.ret [] (.bool true) fun w' hm hI => ⟨by simp only [lookP, h, Bool.true_or], bel0 hI⟩
  | false =>
    refine Goes.run1 [0, 0, 0] [(op == 4, false)] ⟨h, trivial⟩ fun g => ?_
    exact Goes.ret [] (.bool (op == 5)) fun w' hm hI => ⟨by simp only [lookP, h, Bool.false_or], bel0 hI⟩
def dateP (op : Int) : Bool := op == 29 || op == 30 || op == 31
set_option maxRecDepth 100000 in
seal rn rnS Goes ans atEnd put0 putM opened putA0 oneSt st0 in
theorem dated_any : Calls Try.prog 27 #[cv op k t (.slice a N c)] w fun e w' => e = .returned (.bool (dateP op)) ∧ Below w.heap.size w w' := by
  refine Goes.begin Try.func27 [] (fun _ => True) Holds.nil (by simp [Mem.ids]) (fun _ _ => trivial) ?_
  cases h : (op == 29) with
  | true =>
    refine Goes.run1 [0, 1, 1] [(true, true), (op == 29, true)] ⟨rfl, h, trivial⟩ fun g => ?_
    exact Goes.ret [] (.bool true) fun w' hm hI => ⟨by simp only [dateP, h, Bool.true_or], bel0 hI⟩
  | false =>
    cases h2 : (op == 30) with
    | true =>
      refine Goes.run1 [0, 0, 0, 1] [(op == 30, true), (op == 29, false)] ⟨h2, h, trivial⟩ fun g => ?_
      exact Goes.ret [] (.bool true) fun w' hm hI => ⟨by simp only [dateP, h, h2, Bool.false_or, Bool.true_or], bel0 hI⟩
    | false =>
      refine Goes.run1 [0, 0, 0, 0, 0] [(op == 30, false), (op == 29, false)] ⟨h2, h, trivial⟩ fun g => ?_
      exact Goes.ret [] (.bool (op == 31)) fun w' hm hI => ⟨by simp only [dateP, h, h2, Bool.false_or], bel0 hI⟩
def ownN (op k : Int) : Bool :=
  bif op == 1 then inW k (-1000000000000000) 1000000000000000 else bif op == 2 then inW k 0 1 else bif op == 3 || dateP op then inW k 0 73048 else bif lookP op then inW k (-3660) 3660 else k == 0
set_option maxRecDepth 100000 in
seal rn rnS Goes ans atEnd put0 putM opened putA0 oneSt st0 in
theorem ownN_any : Calls Try.prog 67 #[cv op k t (.slice a N c)] w fun e w' => e = .returned (.bool (ownN op k)) ∧ Below w.heap.size w w' := by
  refine Goes.begin Try.func67 [] (fun _ => True) Holds.nil (by simp [Mem.ids]) (fun _ _ => trivial) ?_
  cases h1 : (op == 1) with
  | true =>
    refine Goes.run1 [0, 1, 0] [(op == 1, true)] ⟨h1, trivial⟩ fun g => ?_
    refine Goes.call0 76 #[.int .i64 k, .int .i64 (-1000000000000000), .int .i64 1000000000000000] (.bool (inW k (-1000000000000000) 1000000000000000)) (fun w' _ _ => inW_any k (-1000000000000000) 1000000000000000 w') ?_
    refine Goes.run [] [] trivial ?_
    exact Goes.ret [] (.bool (inW k (-1000000000000000) 1000000000000000)) fun w' hm hI => ⟨by unfold ownN; rw [h1] <;> rfl, bel0 hI⟩
  | false =>
    cases h2 : (op == 2) with
    | true =>
      refine Goes.run1 [0, 0, 0, 1, 0] [(op == 2, true), (op == 1, false)] ⟨h2, h1, trivial⟩ fun g => ?_
      refine Goes.call0 76 #[.int .i64 k, .int .i64 (0), .int .i64 1] (.bool (inW k (0) 1)) (fun w' _ _ => inW_any k (0) 1 w') ?_
      refine Goes.run [] [] trivial ?_
      exact Goes.ret [] (.bool (inW k (0) 1)) fun w' hm hI => ⟨by unfold ownN; rw [h1, h2] <;> rfl, bel0 hI⟩
    | false =>
      cases h3 : (op == 3) with
      | true =>
        refine Goes.run1 [0, 0, 0, 0, 0, 1, 1, 0] [(true, true), (op == 3, true), (op == 2, false), (op == 1, false)] ⟨rfl, h3, h2, h1, trivial⟩ fun g => ?_
        refine Goes.call0 76 #[.int .i64 k, .int .i64 (0), .int .i64 73048] (.bool (inW k (0) 73048)) (fun w' _ _ => inW_any k (0) 73048 w') ?_
        refine Goes.run [] [] trivial ?_
        exact Goes.ret [] (.bool (inW k (0) 73048)) fun w' hm hI => ⟨by unfold ownN; rw [h1, h2, h3] <;> rfl, bel0 hI⟩
      | false =>
        refine Goes.run1 [0, 0, 0, 0, 0, 0, 0] [(op == 3, false), (op == 2, false), (op == 1, false)] ⟨h3, h2, h1, trivial⟩ fun g => ?_
        refine Goes.call0 27 #[cv op k t (.slice a N c)] (.bool (dateP op)) (fun w' _ _ => dated_any op k t a N c w') ?_
        cases h4 : dateP op with
        | true =>
          refine Goes.run [1, 0] [(true, true)] ⟨rfl, trivial⟩ ?_
          refine Goes.call0 76 #[.int .i64 k, .int .i64 (0), .int .i64 73048] (.bool (inW k (0) 73048)) (fun w' _ _ => inW_any k (0) 73048 w') ?_
          refine Goes.run [] [] trivial ?_
          exact Goes.ret [] (.bool (inW k (0) 73048)) fun w' hm hI => ⟨by unfold ownN; rw [h1, h2, h3, h4] <;> rfl, bel0 hI⟩
        | false =>
          refine Goes.run [0, 0] [(false, false)] ⟨rfl, trivial⟩ ?_
          refine Goes.call0 24 #[cv op k t (.slice a N c)] (.bool (lookP op)) (fun w' _ _ => look_any op k t a N c w') ?_
          cases h5 : lookP op with
          | true =>
            refine Goes.run [1, 0] [(true, true)] ⟨rfl, trivial⟩ ?_
            refine Goes.call0 76 #[.int .i64 k, .int .i64 (-3660), .int .i64 3660] (.bool (inW k (-3660) 3660)) (fun w' _ _ => inW_any k (-3660) 3660 w') ?_
            refine Goes.run [] [] trivial ?_
            exact Goes.ret [] (.bool (inW k (-3660) 3660)) fun w' hm hI => ⟨by unfold ownN; rw [h1, h2, h3, h4, h5] <;> rfl, bel0 hI⟩
          | false =>
            refine Goes.run [0, 0] [(false, false)] ⟨rfl, trivial⟩ ?_
            exact Goes.ret [] (.bool (k == 0)) fun w' hm hI => ⟨by unfold ownN; rw [h1, h2, h3, h4, h5] <;> rfl, bel0 hI⟩
theorem eqE (l : List UInt8) (w : World) : (do eqGuard .eql 9 (.tmp 17) (.const (strV [])) (strV l) (strV []); binOp .eql 9 (strV l) (strV []) : Sem Value).run Try.prog w = .ok (.bool (decide (l = []))) w := by
  have : (eqGuard .eql 9 (.tmp 17) (.const (strV [])) (strV l) (strV [])).run Try.prog w = .ok () w := by
    unfold eqGuard strV; go_simp
  simp only [Sem.run_bind, this, Result.andThen_ok, eqlS l [] _ rfl w]
def ownS (op : Int) (t : List UInt8) : Bool := bif op == 4 || op == 31 then namP t else bif op == 24 then curP t else decide (t = [])
set_option maxRecDepth 100000 in
seal rn rnS Goes ans atEnd put0 putM opened putA0 oneSt st0 in
theorem ownS_any (ht : t.length ≤ 9223372036854775807) : Calls Try.prog 68 #[cv op k t (.slice a N c)] w fun e w' => e = .returned (.bool (ownS op t)) ∧ Below w.heap.size w w' := by
  refine Goes.begin Try.func68 [] (fun _ => True) Holds.nil (by simp [Mem.ids]) (fun _ _ => trivial) ?_
  cases h1 : (op == 4) with
  | true =>
    refine Goes.run1 [0, 1, 1, 0] [(op == 4, true), (op == 4, true)] ⟨h1, h1, trivial⟩ fun g => ?_
    refine Goes.call0 77 #[strV t] (.bool (namP t)) (fun w' _ _ => isNam_any t w' ht) ?_
    refine Goes.run [] [] trivial ?_
    exact Goes.ret [] (.bool (namP t)) fun w' hm hI => ⟨by unfold ownS; rw [h1] <;> rfl, bel0 hI⟩
  | false =>
    cases h2 : (op == 31) with
    | true =>
      refine Goes.run1 [0, 0, 1, 0] [(op == 31, true), (op == 4, false)] ⟨h2, h1, trivial⟩ fun g => ?_
      refine Goes.call0 77 #[strV t] (.bool (namP t)) (fun w' _ _ => isNam_any t w' ht) ?_
      refine Goes.run [] [] trivial ?_
      exact Goes.ret [] (.bool (namP t)) fun w' hm hI => ⟨by unfold ownS; rw [h1, h2] <;> rfl, bel0 hI⟩
    | false =>
      cases h3 : (op == 24) with
      | true =>
        refine Goes.run1 [0, 0, 0, 1, 0] [(op == 24, true), (op == 31, false), (op == 4, false)] ⟨h3, h2, h1, trivial⟩ fun g => ?_
        refine Goes.call0 78 #[strV t] (.bool (curP t)) (fun w' _ _ => isCur_any t w' ht) ?_
        refine Goes.run [] [] trivial ?_
        exact Goes.ret [] (.bool (curP t)) fun w' hm hI => ⟨by unfold ownS; rw [h1, h2, h3] <;> rfl, bel0 hI⟩
      | false =>
        refine Goes.upto1 18 [0, 0, 0, 0, 0] [(op == 24, false), (op == 31, false), (op == 4, false)] ⟨h3, h2, h1, trivial⟩ fun g => ?_
        refine Goes.val (do eqGuard .eql 9 (.tmp 17) (.const (strV [])) (strV t) (strV []); binOp .eql 9 (strV t) (strV [])) (.bool (decide (t = []))) (fun w' _ _ => eqE t w') ?_
        refine Goes.run [] [] trivial ?_
        exact Goes.ret [] (.bool (decide (t = []))) fun w' hm hI => ⟨by unfold ownS; rw [h1, h2, h3] <;> rfl, bel0 hI⟩
def ownC (op k : Int) (t : List UInt8) : Bool := ownN op k && ownS op t
set_option maxRecDepth 100000 in
seal rn rnS Goes ans atEnd put0 putM opened putA0 oneSt st0 in
theorem ownC_any (ht : t.length ≤ 9223372036854775807) : Calls Try.prog 46 #[cv op k t (.slice a N c)] w fun e w' => e = .returned (.bool (ownC op k t)) ∧ Below w.heap.size w w' := by
  refine Goes.begin Try.func46 [] (fun _ => True) Holds.nil (by simp [Mem.ids]) (fun _ _ => trivial) ?_
  refine Goes.run1 [0] [] trivial fun g => ?_
  refine Goes.call0 67 #[cv op k t (.slice a N c)] (.bool (ownN op k)) (fun w' _ _ => ownN_any op k t a N c w') ?_
  cases h : ownN op k with
  | true =>
    refine Goes.run [1, 0] [(true, true)] ⟨rfl, trivial⟩ ?_
    refine Goes.call0 68 #[cv op k t (.slice a N c)] (.bool (ownS op t)) (fun w' _ _ => ownS_any op k t a N c w' ht) ?_
    refine Goes.run [] [] trivial ?_
    exact Goes.ret [] (.bool (ownS op t)) fun w' hm hI => ⟨by simp only [ownC, h, Bool.true_and], bel0 hI⟩
  | false =>
    refine Goes.run [0] [(false, false)] ⟨rfl, trivial⟩ ?_
    exact Goes.ret [] (.bool false) fun w' hm hI => ⟨by simp only [ownC, h, Bool.false_and], bel0 hI⟩
end
end Go.Proofs.Ytfblnjidghijaaa
