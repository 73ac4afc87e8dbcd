/- causal: a term's own N and S. -/
import Derived.Test.YtfblnjidghijaaaCKids
namespace Go.Proofs.Ytfblnjidghijaaa
open Go Go.RowKit

/-- A function that tells of which sort a byte is. -/
def Srt (f : FuncId) (C : Int → Bool) : Prop := ∀ (z : Int) (w : World), Calls Try.prog f #[.int .u8 z] w fun e w' => e = .returned (.bool (C z)) ∧ Below w.heap.size w w'
def cLet (z : Int) : Bool := decide (97 ≤ z) && decide (z ≤ 122)
def cCap (z : Int) : Bool := decide (65 ≤ z) && decide (z ≤ 90)
def cDig (z : Int) : Bool := decide (48 ≤ z) && decide (z ≤ 57)
def cIn (z : Int) : Bool := cLet z || cDig z || z == 95
theorem bel0 {s : St} {w w' : World} {Q : World → Prop} (hI : Stay s.mem.ids w' (fun w2 => Ch (Mem.ids []) w w2 ∧ Q w2)) : Below w.heap.size w w' := hI.now.1.toB (fun x hx => by cases hx)
set_option maxRecDepth 100000 in
seal rn Goes ans atEnd put0 putM opened putA0 oneSt st0 in
theorem cLet_any : Srt 82 cLet := by
  intro z w
  refine Goes.begin Try.func82 [] (fun _ => True) Holds.nil (by simp [Mem.ids]) (fun _ _ => trivial) ?_
  cases h : decide ((97 : Int) ≤ z) with
  | true =>
    refine Goes.run [1] [(decide ((97 : Int) ≤ z), true)] ⟨h, trivial⟩ ?_
    exact Goes.ret [] (.bool (decide (z ≤ 122))) fun w' hm hI => ⟨by simp only [cLet, h, Bool.true_and], bel0 hI⟩
  | false =>
    refine Goes.run [0] [(decide ((97 : Int) ≤ z), false)] ⟨h, trivial⟩ ?_
    exact Goes.ret [] (.bool false) fun w' hm hI => ⟨by simp only [cLet, h, Bool.false_and], bel0 hI⟩
set_option maxRecDepth 100000 in
seal rn Goes ans atEnd put0 putM opened putA0 oneSt st0 in
theorem cCap_any : Srt 85 cCap := by
  intro z w
  refine Goes.begin Try.func85 [] (fun _ => True) Holds.nil (by simp [Mem.ids]) (fun _ _ => trivial) ?_
  cases h : decide ((65 : Int) ≤ z) with
  | true =>
    refine Goes.run [1] [(decide ((65 : Int) ≤ z), true)] ⟨h, trivial⟩ ?_
    exact Goes.ret [] (.bool (decide (z ≤ 90))) fun w' hm hI => ⟨by simp only [cCap, h, Bool.true_and], bel0 hI⟩
  | false =>
    refine Goes.run [0] [(decide ((65 : Int) ≤ z), false)] ⟨h, trivial⟩ ?_
    exact Goes.ret [] (.bool false) fun w' hm hI => ⟨by simp only [cCap, h, Bool.false_and], bel0 hI⟩
theorem idxB {l : List UInt8} {i : Nat} {c : UInt8} (h : l[i]? = some c) (w : World) : (Instr.index 9 (strV l) (.int .i64 i)).run Try.prog w = .ok (.int .u8 (c.toNat : Nat)) w := by
  have hlt := (List.getElem?_eq_some_iff.1 h).1
  have h1 : (i : Int) < l.length := by omega
  have h2 : (⟨l.toArray⟩ : ByteArray).size = l.length := by simp [ByteArray.size]
  have h3 : (⟨l.toArray⟩ : ByteArray)[i]'(by rw [h2]; exact hlt) = c := by
    have := (List.getElem?_eq_some_iff.1 h).2
    simp [ByteArray.getElem_eq_getElem_data, this]
  unfold strV
  go_simp
set_option maxRecDepth 100000 in
seal rn Goes ans atEnd put0 putM opened putA0 oneSt st0 in
theorem cIn_any : Srt 84 cIn := by
  intro z w
  refine Goes.begin Try.func84 [] (fun _ => True) Holds.nil (by simp [Mem.ids]) (fun _ _ => trivial) ?_
  refine Goes.run [] [] trivial ?_
  refine Goes.call0 82 #[.int .u8 z] (.bool (cLet z)) (fun w' _ _ => cLet_any z w') ?_
  cases h : cLet z with
  | true =>
    refine Goes.run [1, 1] [(true, true), (true, true)] ⟨rfl, rfl, trivial⟩ ?_
    exact Goes.ret [] (.bool true) fun w' hm hI => ⟨by simp only [cIn, h, Bool.true_or], bel0 hI⟩
  | false =>
    cases h2 : decide ((48 : Int) ≤ z) with
    | false =>
      refine Goes.run [0, 0, 0] [(false, false), (decide ((48 : Int) ≤ z), false), (false, false)] ⟨rfl, h2, rfl, trivial⟩ ?_
      exact Goes.ret [] (.bool (z == 95)) fun w' hm hI => ⟨by simp only [cIn, cDig, h, h2, Bool.false_and, Bool.false_or], bel0 hI⟩
    | true =>
      cases h3 : decide (z ≤ (57 : Int)) with
      | true =>
        refine Goes.run [0, 1, 1] [(decide (z ≤ (57 : Int)), true), (decide ((48 : Int) ≤ z), true), (false, false)] ⟨h3, h2, rfl, trivial⟩ ?_
        exact Goes.ret [] (.bool true) fun w' hm hI => ⟨by simp only [cIn, cDig, h, h2, h3, Bool.true_and, Bool.false_or, Bool.true_or], bel0 hI⟩
      | false =>
        refine Goes.run [0, 1, 0] [(decide (z ≤ (57 : Int)), false), (decide ((48 : Int) ≤ z), true), (false, false)] ⟨h3, h2, rfl, trivial⟩ ?_
        exact Goes.ret [] (.bool (z == 95)) fun w' hm hI => ⟨by simp only [cIn, cDig, h, h2, h3, Bool.true_and, Bool.false_or], bel0 hI⟩
/-- Are all its bytes of a sort? -/
def allB (C : Int → Bool) (l : List UInt8) : Bool := l.all fun x => C (x.toNat : Nat)
set_option maxRecDepth 100000 in
seal rn Goes ans atEnd put0 putM opened putA0 oneSt st0 in
theorem areAll_any {f : FuncId} {C : Int → Bool} (hs : Srt f C) (hf : okf Try.prog f = true) (l : List UInt8) (w : World) (hl : l.length ≤ 9223372036854775807) : Calls Try.prog 83 #[strV l, .func (.func f) #[] #[]] w fun e w' => e = .returned (.bool (allB C l)) ∧ Below w.heap.size w w' := by
  refine Goes.begin Try.func83 [] (fun _ => True) Holds.nil (by simp [Mem.ids]) (fun _ _ => trivial) ?_
  refine Goes.run [] [] trivial ?_
  refine Goes.loop0 (α := Nat) 18 (fun j => [(0, strV l), (1, .func (.func f) #[] #[]), (7, .int .i64 l.length), (8, .int .i64 j)]) [] (fun j => allB C (l.drop j) = allB C l ∧ j ≤ l.length) (fun j => l.length - j) 0 ⟨rfl, Nat.zero_le _⟩ ?_
  rintro j J ⟨hj, hj2⟩ back
  cases hlt : decide ((j : Int) < (l.length : Int)) with
  | false =>
    refine Goes.run [0, 0] [(decide ((j : Int) < (l.length : Int)), false)] ⟨hlt, trivial⟩ ?_
    exact Goes.ret [] (.bool true) fun w' hm hI => ⟨by rw [← hj, List.drop_of_length_le (by have := of_decide_eq_false hlt; omega)]; rfl, bel0 hI⟩
  | true =>
    have hjl : j < l.length := by have := of_decide_eq_true hlt; omega
    obtain ⟨x, hx⟩ : ∃ x, l[j]? = some x := ⟨l[j], by simp⟩
    have hd : l.drop j = x :: l.drop (j + 1) := by
      obtain ⟨h1, h2⟩ := List.getElem?_eq_some_iff.1 hx
      rw [List.drop_eq_getElem_cons h1, h2]
    refine Goes.run [0, 1] [(decide ((j : Int) < (l.length : Int)), true)] ⟨hlt, trivial⟩ ?_
    refine Goes.val (Instr.index 9 (strV l) (.int .i64 j)) (.int .u8 (x.toNat : Nat)) (fun w' _ _ => idxB hx w') ?_
    refine Goes.call0 f #[.int .u8 (x.toNat : Nat)] (.bool (C (x.toNat : Nat))) (fun w' _ _ => hs _ w') (hf := hf) ?_
    cases hc : C (x.toNat : Nat) with
    | false =>
      refine Goes.run [1] [(true, true)] ⟨rfl, trivial⟩ ?_
      exact Goes.ret [] (.bool false) fun w' hm hI => ⟨by rw [← hj, hd]; simp [allB, hc], bel0 hI⟩
    | true =>
      refine Goes.run [0] [(false, false)] ⟨rfl, trivial⟩ ?_
      refine Goes.slot 8 (.int .i64 (j + 1 : Nat)) (u := .int .i64 (IntKind.i64.wrap ((j : Int) + 1))) (congrArg _ (wrap_nat (by omega))) ?_
      exact back (j + 1) _ ⟨by rw [← hj, hd]; simp [allB, hc], by omega⟩ (by omega) (by kernel_rfl) (by kernel_rfl) (by kernel_rfl)
def curP (l : List UInt8) : Bool := ((l.length : Int) == 3) && allB cCap l
set_option maxRecDepth 100000 in
seal rn Goes ans atEnd put0 putM opened putA0 oneSt st0 in
theorem isCur_any (l : List UInt8) (w : World) (hl : l.length ≤ 9223372036854775807) : Calls Try.prog 78 #[strV l] w fun e w' => e = .returned (.bool (curP l)) ∧ Below w.heap.size w w' := by
  refine Goes.begin Try.func78 [] (fun _ => True) Holds.nil (by simp [Mem.ids]) (fun _ _ => trivial) ?_
  cases h : ((l.length : Int) == 3) with
  | true =>
    refine Goes.run [1] [((l.length : Int) == 3, true)] ⟨h, trivial⟩ ?_
    refine Goes.call0 83 #[strV l, .func (.func 85) #[] #[]] (.bool (allB cCap l)) (fun w' _ _ => areAll_any cCap_any (by kernel_rfl) l w' hl) ?_
    refine Goes.run [] [] trivial ?_
    exact Goes.ret [] (.bool (allB cCap l)) fun w' hm hI => ⟨by simp only [curP, h, Bool.true_and], bel0 hI⟩
  | false =>
    refine Goes.run [0] [((l.length : Int) == 3, false)] ⟨h, trivial⟩ ?_
    exact Goes.ret [] (.bool false) fun w' hm hI => ⟨by simp only [curP, h, Bool.false_and], bel0 hI⟩
def namP (l : List UInt8) : Bool := decide ((0 : Int) < (l.length : Int)) && decide ((l.length : Int) ≤ 24) && cLet ((l.getD 0 0).toNat : Nat) && allB cIn l
set_option maxRecDepth 100000 in
seal rn Goes ans atEnd put0 putM opened putA0 oneSt st0 in
theorem isNam_any (l : List UInt8) (w : World) (hl : l.length ≤ 9223372036854775807) : Calls Try.prog 77 #[strV l] w fun e w' => e = .returned (.bool (namP l)) ∧ Below w.heap.size w w' := by
  refine Goes.begin Try.func77 [] (fun _ => True) Holds.nil (by simp [Mem.ids]) (fun _ _ => trivial) ?_
  cases h0 : decide ((0 : Int) < (l.length : Int)) with
  | false =>
    refine Goes.run [0, 0, 0] [(false, false), (false, false), (decide ((0 : Int) < (l.length : Int)), false)] ⟨rfl, rfl, h0, trivial⟩ ?_
    exact Goes.ret [] (.bool false) fun w' hm hI => ⟨by simp only [namP, h0, Bool.false_and], bel0 hI⟩
  | true =>
    cases h1 : decide ((l.length : Int) ≤ 24) with
    | false =>
      refine Goes.run [1, 0, 0] [(false, false), (decide ((l.length : Int) ≤ 24), false), (decide ((0 : Int) < (l.length : Int)), true)] ⟨rfl, h1, h0, trivial⟩ ?_
      exact Goes.ret [] (.bool false) fun w' hm hI => ⟨by simp only [namP, h0, h1, Bool.true_and, Bool.false_and], bel0 hI⟩
    | true =>
      have hp : 0 < l.length := by have := of_decide_eq_true h0; omega
      obtain ⟨x, hx⟩ : ∃ x, l[0]? = some x := ⟨l[0], by simp⟩
      have hx' : l.getD 0 0 = x := by simp [List.getD, hx]
      refine Goes.run [1, 1] [(decide ((l.length : Int) ≤ 24), true), (decide ((0 : Int) < (l.length : Int)), true)] ⟨h1, h0, trivial⟩ ?_
      refine Goes.val (Instr.index 9 (strV l) (.int .i64 (0 : Nat))) (.int .u8 (x.toNat : Nat)) (fun w' _ _ => idxB hx w') ?_
      refine Goes.call0 82 #[.int .u8 (x.toNat : Nat)] (.bool (cLet (x.toNat : Nat))) (fun w' _ _ => cLet_any _ w') ?_
      cases h2 : cLet (x.toNat : Nat) with
      | false =>
        refine Goes.run [0] [(false, false)] ⟨rfl, trivial⟩ ?_
        exact Goes.ret [] (.bool false) fun w' hm hI => ⟨by simp only [namP, h0, h1, hx', h2, Bool.true_and, Bool.false_and], bel0 hI⟩
      | true =>
        refine Goes.run [1] [(true, true)] ⟨rfl, trivial⟩ ?_
        refine Goes.call0 83 #[strV l, .func (.func 84) #[] #[]] (.bool (allB cIn l)) (fun w' _ _ => areAll_any cIn_any (by kernel_rfl) l w' hl) ?_
        refine Goes.run [] [] trivial ?_
        exact Goes.ret [] (.bool (allB cIn l)) fun w' hm hI => ⟨by simp only [namP, h0, h1, hx', h2, Bool.true_and], bel0 hI⟩
end Go.Proofs.Ytfblnjidghijaaa
