/- causal: Size, Horizon, Check. -/
import Derived.Test.YtfblnjidghijaaaCAsk2
namespace Go.Proofs.Ytfblnjidghijaaa
open Go Go.RowKit

def szF (x : Int) (_ : Co) : Int := IntKind.i64.wrap (x + 1)
def hzF (x : Int) : Co → Int
  | .mk op k _ _ => bif dateP op then (if k > x then k else x) else x
def ckF (x : Int) : Co → Int
  | .mk op k _ _ => bif lookP op then (bif decide (k < 0) then 141 else x) else x
set_option maxRecDepth 100000 in
seal rn rnN rnS Goes ans atEnd put0 putM opened putA0 oneSt st0 orT orG in
theorem szQ (n₀ gq : Nat) : Qn n₀ 33 gq 3 szF := by
  intro x w v c hx hN hn
  cases c with
  | mk op k t kids =>
  obtain ⟨a, cc, rfl, hf, -, -⟩ := hN.open
  refine Goes.begin Try.func33 [(gq, .cells #[.int .i64 x] 3 (0, 0))] (fun _ => True) (fun j b o h => by match j, h with | 0, h => (cases h; exact hx)) (by simp [Mem.ids]) (fun _ _ => trivial) ?_
  refine Goes.run1 [0, 0] [] trivial fun g => ?_
  exact Goes.ret [] (.tuple #[]) fun w' hm hI => ⟨rfl, hI.now.1, hm.get 0⟩
set_option maxRecDepth 100000 in
seal rn rnN rnS Goes ans atEnd put0 putM opened putA0 oneSt st0 orT orG in
theorem hzQ (n₀ gq : Nat) : Qn n₀ 26 gq 3 hzF := by
  intro x w v c hx hN hn
  cases c with
  | mk op k t kids =>
  obtain ⟨a, cc, rfl, hf, -, -⟩ := hN.open
  refine Goes.begin Try.func26 [(gq, .cells #[.int .i64 x] 3 (0, 0))] (fun _ => True) (fun j b o h => by match j, h with | 0, h => (cases h; exact hx)) (by simp [Mem.ids]) (fun _ _ => trivial) ?_
  refine Goes.run1 [1] [] trivial fun g => ?_
  refine Goes.call0 27 #[cv op k t (.slice a kids.length cc)] (.bool (dateP op)) (fun w' _ _ => dated_any op k t a kids.length cc w') ?_
  cases h : dateP op with
  | true =>
    refine Goes.run [1, 0, 1, 0, 0] [(true, true)] ⟨rfl, trivial⟩ ?_
    exact Goes.ret [] (.tuple #[]) fun w' hm hI => ⟨rfl, hI.now.1, (hm.get 0 (o := .cells #[.int .i64 (if k > x then k else x)] 3 (0, 0))).trans (by simp only [hzF, h, cond_true])⟩
  | false =>
    refine Goes.run [0] [(false, false)] ⟨rfl, trivial⟩ ?_
    exact Goes.ret [] (.tuple #[]) fun w' hm hI => ⟨rfl, hI.now.1, (hm.get 0 (o := .cells #[.int .i64 x] 3 (0, 0))).trans (by simp only [hzF, h, cond_false])⟩
set_option maxRecDepth 100000 in
seal rn rnN rnS Goes ans atEnd put0 putM opened putA0 oneSt st0 orT orG in
theorem ckQ (n₀ gq : Nat) : Qn n₀ 23 gq 28 ckF := by
  intro x w v c hx hN hn
  cases c with
  | mk op k t kids =>
  obtain ⟨a, cc, rfl, hf, -, -⟩ := hN.open
  refine Goes.begin Try.func23 [(gq, .cells #[.int .i64 x] 28 (0, 0))] (fun _ => True) (fun j b o h => by match j, h with | 0, h => (cases h; exact hx)) (by simp [Mem.ids]) (fun _ _ => trivial) ?_
  refine Goes.run1 [1] [] trivial fun g => ?_
  refine Goes.call0 24 #[cv op k t (.slice a kids.length cc)] (.bool (lookP op)) (fun w' _ _ => look_any op k t a kids.length cc w') ?_
  cases h : lookP op with
  | true =>
    cases h2 : decide (k < 0) with
    | true =>
      refine Goes.run [1, 1, 1, 0] [(decide (k < 0), true), (true, true)] ⟨h2, rfl, trivial⟩ ?_
      exact Goes.ret [] (.tuple #[]) fun w' hm hI => ⟨rfl, hI.now.1, (hm.get 0 (o := .cells #[.int .i64 141] 28 (0, 0))).trans (by simp only [ckF, h, h2, cond_true])⟩
    | false =>
      refine Goes.run [1, 1, 0] [(decide (k < 0), false), (true, true)] ⟨h2, rfl, trivial⟩ ?_
      exact Goes.ret [] (.tuple #[]) fun w' hm hI => ⟨rfl, hI.now.1, (hm.get 0 (o := .cells #[.int .i64 x] 28 (0, 0))).trans (by simp only [ckF, h, h2, cond_true, cond_false])⟩
  | false =>
    refine Goes.run [0, 0] [(false, false), (false, false)] ⟨rfl, rfl, trivial⟩ ?_
    exact Goes.ret [] (.tuple #[]) fun w' hm hI => ⟨rfl, hI.now.1, (hm.get 0 (o := .cells #[.int .i64 x] 28 (0, 0))).trans (by simp only [ckF, h, cond_false])⟩
set_option maxRecDepth 100000 in
seal rn rnN rnS Goes ans atEnd put0 putM opened putA0 oneSt st0 orT orG in
theorem size_any {c : Co} {v : Value} {w : World} (hN : Nc w.heap.size w v c) : Calls Try.prog 16 #[v] w fun e w' => e = .returned (.int .i64 (askP szF 0 c)) ∧ Below w.heap.size w w' := by
  obtain ⟨op, k, t, a, N, cc, rfl⟩ := hN.cells
  refine Goes.begin Try.func16 [] (fun _ => True) Holds.nil (by simp [Mem.ids]) (fun _ _ => trivial) ?_
  refine Goes.run2 [1, 0] [] trivial fun g gq => ?_
  refine Goes.call2 1 gq 22 #[cv op k t (.slice a N cc), askV 33 gq] (.tuple #[]) (.cells #[.int .i64 (askP szF 0 c)] 3 (0, 0)) (fun w' hm hI => ask_any (n₀ := w.heap.size) (szQ _ gq) (by kernel_rfl) (hm.get 1) (fresh_of hI (g := gq) (ids_get (j := 1) (o := .cells #[.int .i64 0] 3 (0, 0)) (by kernel_rfl)) (by simp [Mem.ids])) (hN.later (bel0 hI)) (bel0 hI).size) ?_
  refine Goes.run [1] [] trivial ?_
  exact Goes.ret [] (.int .i64 (askP szF 0 c)) fun w' hm hI => ⟨rfl, bel0 hI⟩
set_option maxRecDepth 100000 in
seal rn rnN rnS Goes ans atEnd put0 putM opened putA0 oneSt st0 orT orG in
theorem horizon_any {c : Co} {v : Value} {w : World} (hN : Nc w.heap.size w v c) : Calls Try.prog 11 #[v] w fun e w' => e = .returned (.int .i64 (askP hzF 0 c)) ∧ Below w.heap.size w w' := by
  obtain ⟨op, k, t, a, N, cc, rfl⟩ := hN.cells
  refine Goes.begin Try.func11 [] (fun _ => True) Holds.nil (by simp [Mem.ids]) (fun _ _ => trivial) ?_
  refine Goes.run2 [1, 0] [] trivial fun g gq => ?_
  refine Goes.call2 1 gq 22 #[cv op k t (.slice a N cc), askV 26 gq] (.tuple #[]) (.cells #[.int .i64 (askP hzF 0 c)] 3 (0, 0)) (fun w' hm hI => ask_any (n₀ := w.heap.size) (hzQ _ gq) (by kernel_rfl) (hm.get 1) (fresh_of hI (g := gq) (ids_get (j := 1) (o := .cells #[.int .i64 0] 3 (0, 0)) (by kernel_rfl)) (by simp [Mem.ids])) (hN.later (bel0 hI)) (bel0 hI).size) ?_
  refine Goes.run [1] [] trivial ?_
  exact Goes.ret [] (.int .i64 (askP hzF 0 c)) fun w' hm hI => ⟨rfl, bel0 hI⟩
def chkP (c : Co) : Int := bif isOfP 4 c then askP ckF 0 c else 140
set_option maxRecDepth 100000 in
seal rn rnN rnS Goes ans atEnd put0 putM opened putA0 oneSt st0 orT orG in
theorem check_any {c : Co} {v : Value} {w : World} (hN : Nc w.heap.size w v c) : Calls Try.prog 9 #[v] w fun e w' => e = .returned (.int .i64 (chkP c)) ∧ Below w.heap.size w w' := by
  obtain ⟨op, k, t, a, N, cc, rfl⟩ := hN.cells
  refine Goes.begin Try.func9 [] (fun _ => True) Holds.nil (by simp [Mem.ids]) (fun _ _ => trivial) ?_
  refine Goes.run1 [0] [] trivial fun g => ?_
  refine Goes.call0 19 #[cv op k t (.slice a N cc), .int .i64 4] (.bool (isOfP 4 c)) (fun w' _ hI => isOf0 4 hN (bel0 hI)) ?_
  cases h : isOfP 4 c with
  | false =>
    refine Goes.run [1] [(true, true)] ⟨rfl, trivial⟩ ?_
    exact Goes.ret [] (.int .i64 140) fun w' hm hI => ⟨by unfold chkP; rw [h] <;> rfl, bel0 hI⟩
  | true =>
    refine Goes.run1 [0, 1, 0] [(false, false)] ⟨rfl, trivial⟩ fun gq => ?_
    refine Goes.call2 1 gq 22 #[cv op k t (.slice a N cc), askV 23 gq] (.tuple #[]) (.cells #[.int .i64 (askP ckF 0 c)] 28 (0, 0)) (fun w' hm hI => ask_any (n₀ := w.heap.size) (ckQ _ gq) (by kernel_rfl) (hm.get 1) (fresh_of hI (g := gq) (ids_get (j := 1) (o := .cells #[.int .i64 0] 28 (0, 0)) (by kernel_rfl)) (by simp [Mem.ids])) (hN.later (bel0 hI)) (bel0 hI).size) ?_
    refine Goes.run [1] [] trivial ?_
    exact Goes.ret [] (.int .i64 (askP ckF 0 c)) fun w' hm hI => ⟨by unfold chkP; rw [h] <;> rfl, bel0 hI⟩
end Go.Proofs.Ytfblnjidghijaaa
