/- texts put together: CKidsM CBothM CRefA CRefF CRefK CRefT CRefT2 CRefL CRefN CRefM CRefH CStr -/
import Derived.Test.YthnojedlndblbaaGreatDoorNGc
import Derived.Test.YthnojedlndblbaaGreatDoorNGb
import Derived.Laws.MakeOwn
import Derived.Sort.Walk0
namespace Go.Proofs.YthnojedlndblbaaGreatDoor
open Go

theorem isOfP_eq (want : Int) (c : Co) : isOfP want c = true ↔ (okT want 1 c = true ∧ szC c ≤ 2000) := by
  have h := (spec c want [] 0 1 (by omega) (by omega) (by omega) (by omega) (by simp)).2.1
  unfold isOfP
  rw [h]
  simp
theorem ty_cond {b : Bool} {x y : Option (List Int)} (hx : ∀ l, x = some l → ∀ z ∈ l, tyOk z) (hy : ∀ l, y = some l → ∀ z ∈ l, tyOk z) : ∀ l, (bif b then x else y) = some l → ∀ z ∈ l, tyOk z := by
  cases b <;> assumption
theorem ty_some {l0 : List Int} (h : ∀ z ∈ l0, tyOk z) : ∀ l, some l0 = some l → ∀ z ∈ l, tyOk z := by rintro l ⟨⟩; exact h
theorem ty_none : ∀ l : List Int, none = some l → ∀ z ∈ l, tyOk z := by intro l h; cases h
theorem kOf_ty {op want : Int} (hw : tyOk want) : ∀ l, kOf op want = some l → ∀ z ∈ l, tyOk z := by
  unfold kOf kContract kNumber kTruth kDay
  unfold tyOk at hw
  repeat' first | exact ty_none | refine ty_cond ?_ ?_ | (refine ty_some ?_; intro z hz; simp only [List.mem_cons, List.not_mem_nil, or_false] at hz; done) | (refine ty_some ?_; intro z hz; simp only [List.mem_cons, List.not_mem_nil, or_false] at hz; unfold tyOk; omega)
theorem typ_of {want : Int} (hw : tyOk want) {c : Co} (h : isOfP want c = true) : (typP c).2 = true := by
  unfold typP
  cases h0 : isOfP 0 c with
  | true => rfl
  | false =>
    cases h1 : isOfP 1 c with
    | true => rfl
    | false =>
      cases h2 : isOfP 2 c with
      | true => rfl
      | false =>
        cases h4 : isOfP 4 c with
        | true => rfl
        | false =>
          exfalso
          rcases hw with rfl | rfl | rfl | rfl
          · rw [h0] at h; cases h
          · rw [h1] at h; cases h
          · rw [h2] at h; cases h
          · rw [h4] at h; cases h
theorem typ_ex {c : Co} (h : (typP c).2 = true) : ∃ want, tyOk want ∧ isOfP want c = true := by
  unfold typP at h
  cases h0 : isOfP 0 c with
  | true => exact ⟨0, .inl rfl, h0⟩
  | false =>
    cases h1 : isOfP 1 c with
    | true => exact ⟨1, .inr (.inl rfl), h1⟩
    | false =>
      cases h2 : isOfP 2 c with
      | true => exact ⟨2, .inr (.inr (.inl rfl)), h2⟩
      | false =>
        cases h4 : isOfP 4 c with
        | true => exact ⟨4, .inr (.inr (.inr rfl)), h4⟩
        | false => rw [h0, h1, h2, h4] at h; cases h
end Go.Proofs.YthnojedlndblbaaGreatDoor
namespace Go.Proofs.YthnojedlndblbaaGreatDoor
open Go

mutual
def dpC : Co → Int
  | .mk _ _ _ kids => 1 + dpL kids
def dpL : List Co → Int
  | [] => 0
  | c :: r => max (dpC c) (dpL r)
end
theorem dpL_pos : ∀ l : List Co, 0 ≤ dpL l
  | [] => by unfold dpL; omega
  | c :: r => by unfold dpL; have := dpL_pos r; omega
mutual
theorem okT_dp (want d : Int) : ∀ c : Co, okT want (d + 1) c = true ↔ (okT want d c = true ∧ d + dpC c ≤ 200)
  | .mk op k t kids => by
    unfold okT dpC
    have hp := dpL_pos kids
    cases kOf op want with
    | none => simp
    | some ks =>
      simp only [Bool.and_eq_true, decide_eq_true_eq]
      constructor
      · rintro ⟨⟨h1, h2⟩, h3⟩
        have := (okTs_dp (d + 1) ks kids (by omega)).1 h3
        exact ⟨⟨⟨h1, by omega⟩, this.1⟩, by omega⟩
      · rintro ⟨⟨⟨h1, h2⟩, h3⟩, h4⟩
        exact ⟨⟨h1, by omega⟩, (okTs_dp (d + 1) ks kids (by omega)).2 ⟨h3, by omega⟩⟩
theorem okTs_dp (d : Int) (ks : List Int) : ∀ l : List Co, d ≤ 200 → (okTs (d + 1) ks l = true ↔ (okTs d ks l = true ∧ d + dpL l ≤ 200))
  | [], h => by unfold okTs dpL; simp; omega
  | c :: r, h => by
    unfold okTs dpL
    cases ks with
    | nil => simp
    | cons x xs =>
      simp only [Bool.and_eq_true]
      rw [okT_dp x d c, okTs_dp d xs r h]
      constructor
      · rintro ⟨⟨h1, h2⟩, h3, h4⟩; exact ⟨⟨h1, h3⟩, by omega⟩
      · rintro ⟨⟨h1, h2⟩, h3⟩; exact ⟨⟨h1, by omega⟩, h2, by omega⟩
end
mutual
/-- Does it look ahead? -/
def ahC : Co → Bool
  | .mk op k _ kids => (lookP op && decide (k < 0)) || ahL kids
def ahL : List Co → Bool
  | [] => false
  | c :: r => ahC c || ahL r
end
mutual
theorem ck_walk (d x : Int) : ∀ c : Co, walkP (askF ckF) x d c = (bif ahC c then 141 else x, true)
  | .mk op k t kids => by
    unfold ahC
    unfold walkP askF ckF
    cases h1 : lookP op with
    | true =>
      cases h2 : decide (k < 0) with
      | true =>
        have := ck_walkK (IntKind.i64.wrap (d + 1)) 141 kids
        unfold askF ckF at this
        simp only [h1, h2, cond_true, this, Bool.true_and, Bool.true_or]
        cases ahL kids <;> rfl
      | false =>
        have := ck_walkK (IntKind.i64.wrap (d + 1)) x kids
        unfold askF ckF at this
        simp only [h1, h2, cond_true, cond_false, this, Bool.true_and, Bool.false_or]
    | false =>
      have := ck_walkK (IntKind.i64.wrap (d + 1)) x kids
      unfold askF ckF at this
      simp only [h1, cond_false, this, Bool.false_and, Bool.false_or]
theorem ck_walkK (d x : Int) : ∀ l : List Co, walkK (askF ckF) x d l = (bif ahL l then 141 else x, true)
  | [] => by unfold walkK ahL; rfl
  | c :: r => by
    unfold ahL
    unfold walkK
    rw [ck_walk d x c]
    simp only
    rw [ck_walkK d _ r]
    cases ahC c <;> cases ahL r <;> rfl
end
theorem typ4 {c : Co} (h : isOfP 4 c = true) : (typP c).2 = true := typ_of (.inr (.inr (.inr rfl))) h
theorem chk_no {c : Co} (h : isOfP 4 c = false) : chkP c = 140 := by unfold chkP; rw [h]; rfl
theorem chk_yes {c : Co} (h : isOfP 4 c = true) : chkP c = bif ahC c then 141 else 0 := by
  unfold chkP askP
  rw [h, typ4 h, ck_walk 1 0 c]
  rfl
end Go.Proofs.YthnojedlndblbaaGreatDoor
namespace Go.Proofs.YthnojedlndblbaaGreatDoor
open Go Go.RowKit

set_option maxRecDepth 100000 in
seal rn Goes ans atEnd put0 putM opened putA0 oneSt st0 in
theorem rsmall_any : Srt 103 cLet := by
  intro z w
  refine Goes.begin Tryz.func103 [] (fun _ => True) Holds.nil (by simp [Mem.ids]) (fun _ _ => trivial) ?_
  cases h : decide ((97 : Int) ≤ z) with
  | true =>
    refine Goes.run [1] [(decide ((97 : Int) ≤ z), true)] ⟨h, trivial⟩ ?_
    exact Goes.ret [] (.bool (decide (z ≤ 122))) fun w' hm hI => ⟨by simp only [cLet, h, Bool.true_and], bel0 hI⟩
  | false =>
    refine Goes.run [0] [(decide ((97 : Int) ≤ z), false)] ⟨h, trivial⟩ ?_
    exact Goes.ret [] (.bool false) fun w' hm hI => ⟨by simp only [cLet, h, Bool.false_and], bel0 hI⟩
set_option maxRecDepth 100000 in
seal rn Goes ans atEnd put0 putM opened putA0 oneSt st0 in
theorem rdigit_any : Srt 127 cDig := by
  intro z w
  refine Goes.begin Tryz.func127 [] (fun _ => True) Holds.nil (by simp [Mem.ids]) (fun _ _ => trivial) ?_
  cases h : decide ((48 : Int) ≤ z) with
  | true =>
    refine Goes.run [1] [(decide ((48 : Int) ≤ z), true)] ⟨h, trivial⟩ ?_
    exact Goes.ret [] (.bool (decide (z ≤ 57))) fun w' hm hI => ⟨by simp only [cDig, h, Bool.true_and], bel0 hI⟩
  | false =>
    refine Goes.run [0] [(decide ((48 : Int) ≤ z), false)] ⟨h, trivial⟩ ?_
    exact Goes.ret [] (.bool false) fun w' hm hI => ⟨by simp only [cDig, h, Bool.false_and], bel0 hI⟩
set_option maxRecDepth 100000 in
seal rn Goes ans atEnd put0 putM opened putA0 oneSt st0 in
theorem rinner_any : Srt 104 cIn := by
  intro z w
  refine Goes.begin Tryz.func104 [] (fun _ => True) Holds.nil (by simp [Mem.ids]) (fun _ _ => trivial) ?_
  refine Goes.run [] [] trivial ?_
  refine Goes.call0 103 #[.int .u8 z] (.bool (cLet z)) (fun w' _ _ => rsmall_any z w') ?_
  cases h : cLet z with
  | true =>
    refine Goes.run [1, 1] [(true, true), (true, true)] ⟨rfl, rfl, trivial⟩ ?_
    exact Goes.ret [] (.bool true) fun w' hm hI => ⟨by simp only [cIn, h, Bool.true_or], bel0 hI⟩
  | false =>
    refine Goes.run [0] [(false, false)] ⟨rfl, trivial⟩ ?_
    refine Goes.call0 127 #[.int .u8 z] (.bool (cDig z)) (fun w' _ _ => rdigit_any z w') ?_
    cases h2 : cDig z with
    | true =>
      refine Goes.run [1] [(true, true)] ⟨rfl, trivial⟩ ?_
      exact Goes.ret [] (.bool true) fun w' hm hI => ⟨by simp only [cIn, h, h2, Bool.true_or, Bool.false_or], bel0 hI⟩
    | false =>
      refine Goes.run [0] [(false, false)] ⟨rfl, trivial⟩ ?_
      exact Goes.ret [] (.bool (z == 95)) fun w' hm hI => ⟨by simp only [cIn, h, h2, Bool.false_or], bel0 hI⟩
def tkIn (l : List UInt8) : Nat := (l.takeWhile fun y => cIn (y.toNat : Nat)).length
def spanL : List UInt8 → Nat
  | [] => 0
  | x :: r => bif cLet (x.toNat : Nat) then 1 + tkIn r else 0
set_option maxRecDepth 100000 in
seal rn Goes ans atEnd put0 putM opened putA0 oneSt st0 in
theorem rspan_any (l : List UInt8) (w : World) (hl : l.length ≤ 9223372036854775807) : Calls Tryz.prog 67 #[strV l, .int .i64 0] w fun e w' => e = .returned (.int .i64 (spanL l : Nat)) ∧ Below w.heap.size w w' := by
  refine Goes.begin Tryz.func67 [] (fun _ => True) Holds.nil (by simp [Mem.ids]) (fun _ _ => trivial) ?_
  cases h0 : decide ((0 : Int) ≥ (l.length : Int)) with
  | true =>
    obtain rfl : l = [] := List.eq_nil_of_length_eq_zero (by have := of_decide_eq_true h0; omega)
    refine Goes.run [1] [(true, true)] ⟨rfl, trivial⟩ ?_
    exact Goes.ret [] (.int .i64 0) fun w' hm hI => ⟨rfl, bel0 hI⟩
  | false =>
    have hp : 0 < l.length := by have := of_decide_eq_false h0; omega
    obtain ⟨x, hx⟩ : ∃ x, l[0]? = some x := ⟨l[0], by simp⟩
    have hs : spanL l = bif cLet (x.toNat : Nat) then 1 + tkIn (l.drop 1) else 0 := by
      cases l with
      | nil => cases hx
      | cons y r => cases hx; rfl
    refine Goes.run [0] [(decide ((0 : Int) ≥ (l.length : Int)), false)] ⟨h0, trivial⟩ ?_
    refine Goes.val (Instr.index 9 (strV l) (.int .i64 (0 : Nat))) (.int .u8 (x.toNat : Nat)) (fun w' _ _ => idxB hx w') ?_
    refine Goes.call0 103 #[.int .u8 (x.toNat : Nat)] (.bool (cLet (x.toNat : Nat))) (fun w' _ _ => rsmall_any _ w') ?_
    cases h : cLet (x.toNat : Nat) with
    | false =>
      refine Goes.run [1] [(true, true)] ⟨rfl, trivial⟩ ?_
      exact Goes.ret [] (.int .i64 0) fun w' hm hI => ⟨by rw [hs, h]; rfl, bel0 hI⟩
    | true =>
      refine Goes.run [0] [(false, false)] ⟨rfl, trivial⟩ ?_
      rw [hs, h, cond_true]
      refine Goes.loop0 (α := Nat) 34 (fun j => [(0, strV l), (1, .int .i64 0), (6, .int .i64 j)]) [] (fun j => 1 + tkIn (l.drop 1) = j + tkIn (l.drop j) ∧ j ≤ l.length) (fun j => l.length - j) 1 ⟨rfl, by omega⟩ ?_
      rintro j J ⟨hj, hj2⟩ back
      have hz : IntKind.i64.wrap (0 + (j : Int)) = (j : Int) := by rw [IntWalk.i64_in _ ⟨by omega, by omega⟩]; omega
      cases hlt : decide ((j : Int) < (l.length : Int)) with
      | false =>
        refine Goes.run [0, 0, 0] [(false, false), (decide (IntKind.i64.wrap (0 + (j : Int)) < (l.length : Int)), false)] ⟨rfl, by rw [hz]; exact hlt, trivial⟩ ?_
        exact Goes.ret [] (.int .i64 j) fun w' hm hI => ⟨by rw [hj, List.drop_of_length_le (by have := of_decide_eq_false hlt; omega)]; rfl, bel0 hI⟩
      | true =>
        have hjl : j < l.length := by have := of_decide_eq_true hlt; omega
        obtain ⟨y, hy⟩ : ∃ y, l[j]? = some y := ⟨l[j], by simp⟩
        have hd : l.drop j = y :: l.drop (j + 1) := by
          obtain ⟨h1, h2⟩ := List.getElem?_eq_some_iff.1 hy
          rw [List.drop_eq_getElem_cons h1, h2]
        refine Goes.run [0, 1] [(decide (IntKind.i64.wrap (0 + (j : Int)) < (l.length : Int)), true)] ⟨by rw [hz]; exact hlt, trivial⟩ ?_
        refine Goes.val (Instr.index 9 (strV l) (.int .i64 (IntKind.i64.wrap (0 + (j : Int))))) (.int .u8 (y.toNat : Nat)) (fun w' _ _ => by rw [hz]; exact idxB hy w') ?_
        refine Goes.call0 104 #[.int .u8 (y.toNat : Nat)] (.bool (cIn (y.toNat : Nat))) (fun w' _ _ => rinner_any _ w') ?_
        cases hc : cIn (y.toNat : Nat) with
        | false =>
          refine Goes.run [0] [(false, false)] ⟨rfl, trivial⟩ ?_
          exact Goes.ret [] (.int .i64 j) fun w' hm hI => ⟨by rw [hj, hd]; simp [tkIn, hc], bel0 hI⟩
        | true =>
          refine Goes.run [1] [(true, true)] ⟨rfl, trivial⟩ ?_
          refine Goes.slot 6 (.int .i64 (j + 1 : Nat)) (u := .int .i64 (IntKind.i64.wrap ((j : Int) + 1))) (congrArg _ (wrap_nat (by omega))) ?_
          exact back (j + 1) _ ⟨by rw [hj, hd]; simp only [tkIn, List.takeWhile_cons, hc, if_true, List.length_cons]; omega, by omega⟩ (by omega) (by kernel_rfl) (by kernel_rfl) (by kernel_rfl)
theorem tk_all (l : List UInt8) : (tkIn l == l.length) = allB cIn l := by
  unfold tkIn allB
  induction l with
  | nil => rfl
  | cons x r ih =>
    cases h : cIn (x.toNat : Nat) with
    | true => simp only [List.takeWhile_cons, List.all_cons, h, if_true, List.length_cons, Bool.true_and, ← ih]; rw [Bool.eq_iff_iff, beq_iff_eq, beq_iff_eq]; omega
    | false => simp [h]
theorem span_name (l : List UInt8) (h0 : 0 < l.length) : (((spanL l : Nat) : Int) == (l.length : Int)) = (cLet ((l.getD 0 0).toNat : Nat) && allB cIn l) := by
  cases l with
  | nil => simp at h0
  | cons x r =>
    have e : (((spanL (x :: r) : Nat) : Int) == ((x :: r).length : Int)) = (spanL (x :: r) == (x :: r).length) := by
      rw [Bool.eq_iff_iff, beq_iff_eq, beq_iff_eq]; omega
    rw [e]
    simp only [spanL, List.getD_cons_zero]
    cases h : cLet (x.toNat : Nat) with
    | false => simp
    | true =>
      have h2 : cIn (x.toNat : Nat) = true := by simp only [cIn, h, Bool.true_or]
      simp only [cond_true, Bool.true_and, List.length_cons]
      have := tk_all r
      unfold allB at this ⊢
      rw [List.all_cons, h2, Bool.true_and, ← this, Bool.eq_iff_iff, beq_iff_eq, beq_iff_eq]
      omega
set_option maxRecDepth 100000 in
seal rn Goes ans atEnd put0 putM opened putA0 oneSt st0 in
theorem rname_any (l : List UInt8) (w : World) (hl : l.length ≤ 9223372036854775807) : Calls Tryz.prog 38 #[strV l] w fun e w' => e = .returned (.bool (namP l)) ∧ Below w.heap.size w w' := by
  refine Goes.begin Tryz.func38 [] (fun _ => True) Holds.nil (by simp [Mem.ids]) (fun _ _ => trivial) ?_
  cases h0 : decide ((0 : Int) < (l.length : Int)) with
  | false =>
    refine Goes.run [0, 0] [(false, false), (decide ((0 : Int) < (l.length : Int)), false)] ⟨rfl, h0, trivial⟩ ?_
    exact Goes.ret [] (.bool false) fun w' hm hI => ⟨by simp only [namP, h0, Bool.false_and], bel0 hI⟩
  | true =>
    cases h1 : decide ((l.length : Int) ≤ 24) with
    | false =>
      refine Goes.run [1, 0] [(decide ((l.length : Int) ≤ 24), false), (decide ((0 : Int) < (l.length : Int)), true)] ⟨h1, h0, trivial⟩ ?_
      exact Goes.ret [] (.bool false) fun w' hm hI => ⟨by simp only [namP, h0, h1, Bool.true_and, Bool.false_and], bel0 hI⟩
    | true =>
      refine Goes.run [1, 1] [(decide ((l.length : Int) ≤ 24), true), (decide ((0 : Int) < (l.length : Int)), true)] ⟨h1, h0, trivial⟩ ?_
      refine Goes.call0 67 #[strV l, .int .i64 0] (.int .i64 (spanL l : Nat)) (fun w' _ _ => rspan_any l w' hl) ?_
      refine Goes.run [] [] trivial ?_
      exact Goes.ret [] (.bool (((spanL l : Nat) : Int) == (l.length : Int))) fun w' hm hI => ⟨by rw [span_name l (by have := of_decide_eq_true h0; omega)]; simp only [namP, h0, h1, Bool.true_and], bel0 hI⟩
end Go.Proofs.YthnojedlndblbaaGreatDoor
namespace Go.Proofs.YthnojedlndblbaaGreatDoor
open Go Go.RowKit

def fldP (op k : Int) (t : List UInt8) : Bool :=
  bif op == 4 then namP t && inW k (-3660) 3660 else bif op == 31 then namP t && inW k 0 73048 else bif op == 24 then curP t && k == 0 else
  bif !decide (t = []) then false else bif op == 1 then inW k (-1000000000000000) 1000000000000000 else bif op == 2 then k == 0 || k == 1 else bif op == 3 || op == 29 || op == 30 then inW k 0 73048 else bif op == 5 then inW k (-3660) 3660 else k == 0
/-- Both ask the same. -/
theorem fld_own (op k : Int) (t : List UInt8) : fldP op k t = ownC op k t := by
  unfold fldP ownC ownN ownS dateP lookP
  by_cases e4 : op = 4
  · subst e4; simp [Bool.and_comm]
  by_cases e31 : op = 31
  · subst e31; simp [Bool.and_comm]
  by_cases e24 : op = 24
  · subst e24; simp [Bool.and_comm]
  have h4 : (op == 4) = false := by simpa using e4
  have h31 : (op == 31) = false := by simpa using e31
  have h24 : (op == 24) = false := by simpa using e24
  simp only [h4, h31, h24, cond_false, Bool.or_false, Bool.false_or]
  cases hs : decide (t = []) with
  | false => simp
  | true =>
    simp only [Bool.not_true, cond_false, Bool.and_true]
    by_cases e2 : op = 2
    · subst e2
      have : (k == 0 || k == 1) = inW k 0 1 := by
        unfold inW
        rw [Bool.eq_iff_iff]
        simp only [Bool.or_eq_true, beq_iff_eq, Bool.and_eq_true, decide_eq_true_eq]
        omega
      simpa using this
    have h2 : (op == 2) = false := by simpa using e2
    simp only [h2, cond_false, Bool.or_assoc]
end Go.Proofs.YthnojedlndblbaaGreatDoor
namespace Go.Proofs.YthnojedlndblbaaGreatDoor
open Go Go.RowKit

def rkP (op : Int) : Option (List Int × Int) :=
  bif op == 1 || op == 4 then some ([], 0) else bif op == 2 then some ([], 1) else bif op == 3 || op == 5 then some ([], 2) else bif op == 6 then some ([0], 0) else bif op == 7 || op == 8 || op == 9 || op == 10 then some ([0, 0], 0) else bif op == 11 || op == 12 || op == 13 then some ([0, 0], 1) else bif op == 14 then some ([1], 1) else bif op == 15 || op == 16 then some ([1, 1], 1) else bif op == 17 then some ([2, 2], 1) else bif op == 18 || op == 19 then some ([2, 0], 2) else bif op == 20 || op == 21 then some ([2, 2], 0) else bif op == 23 || op == 24 then some ([], 4) else bif op == 25 || op == 29 then some ([4], 4) else bif op == 26 then some ([0, 4], 4) else bif op == 27 || op == 31 then some ([4, 4], 4) else bif op == 28 then some ([1, 4, 4], 4) else bif op == 30 then some ([1, 4], 4) else none
end Go.Proofs.YthnojedlndblbaaGreatDoor
namespace Go.Proofs.YthnojedlndblbaaGreatDoor
open Go Go.RowKit

def lastZ : List Int → Int
  | [] => 0
  | [x] => x
  | _ :: r => lastZ r
def ifF : List Int → Bool
  | [x, y, z] => x == 1 && y == z && y != 4
  | _ => false
/-- What is told of a term whose kids have the types l. -/
def endF (op : Int) (l : List Int) : Int × Bool :=
  bif op == 22 then (lastZ l, ifF l) else
  match rkP op with
  | none => (0, false)
  | some (want, t) => bif (want.length : Int) != (l.length : Int) then (0, false) else bif want == l then (t, true) else (0, false)
mutual
def typF (d : Int) : Co → Int × Bool
  | .mk op k t kids =>
    bif !fldP op k t || decide (d > 200) || decide ((kids.length : Int) > 3) then (0, false) else
    match tysF (d + 1) kids with
    | none => (0, false)
    | some l => endF op l
def tysF (d : Int) : List Co → Option (List Int)
  | [] => some []
  | c :: r => bif (typF d c).2 then (tysF d r).map ((typF d c).1 :: ·) else none
end
end Go.Proofs.YthnojedlndblbaaGreatDoor
namespace Go.Proofs.YthnojedlndblbaaGreatDoor
open Go Go.RowKit

end Go.Proofs.YthnojedlndblbaaGreatDoor
namespace Go.Proofs.YthnojedlndblbaaGreatDoor
open Go Go.RowKit

mutual
def lefF (m d : Int) : Co → Int
  | .mk _ _ _ kids => bif decide (d > 200) then -1 else lefL (m - 1) (d + 1) kids
def lefL (m d : Int) : List Co → Int
  | [] => m
  | c :: r => bif decide (m ≥ 0) then lefL (lefF m d c) d r else m
end
mutual
theorem lef_low : ∀ (c : Co) (m d : Int), 0 ≤ m → -1 ≤ lefF m d c ∧ lefF m d c ≤ m
  | .mk _ _ _ kids, m, d, h => by
    rw [lefF]
    cases decide (d > 200) with
    | true => exact ⟨by simp, by simp; omega⟩
    | false => have := lef_lowL kids (m - 1) (d + 1) (by omega); simp only [cond_false]; omega
theorem lef_lowL : ∀ (l : List Co) (m d : Int), -1 ≤ m → -1 ≤ lefL m d l ∧ lefL m d l ≤ m
  | [], m, d, h => by rw [lefL]; omega
  | c :: r, m, d, h => by
    rw [lefL]
    cases hm : decide (m ≥ 0) with
    | true =>
      have h1 := lef_low c m d (of_decide_eq_true hm)
      have h2 := lef_lowL r (lefF m d c) d h1.1
      simp only [cond_true]; omega
    | false => simp only [cond_false]; omega
end
def smaP (c : Co) : Bool := decide (lefF 2000 1 c ≥ 0)
end Go.Proofs.YthnojedlndblbaaGreatDoor
namespace Go.Proofs.YthnojedlndblbaaGreatDoor
open Go Go.RowKit

theorem rk_small : ∀ n : Fin 32, ∀ t ∈ [(0 : Int), 1, 2, 4], ((n : Nat) : Int) ≠ 22 → kOf ((n : Nat) : Int) t = (match rkP ((n : Nat) : Int) with | some (ks, t') => bif t' == t then some ks else none | none => none) := by decide
theorem rk_ty : ∀ n : Fin 32, ((rkP ((n : Nat) : Int)).map fun q => q.2 == 0 || q.2 == 1 || q.2 == 2 || q.2 == 4).getD true = true := by decide
theorem rk_out {op : Int} (h : op < 0 ∨ 31 < op) : rkP op = none ∧ (op == 22) = false ∧ ∀ t, kOf op t = none := by
  have hc : ∀ c : Int, 0 ≤ c → c ≤ 31 → (op == c) = false := fun c h0 h1 => by rw [beq_eq_false_iff_ne]; omega
  have h22 := hc 22 (by omega) (by omega)
  refine ⟨?_, h22, fun t => ?_⟩
  · unfold rkP
    simp [hc]
  · unfold kOf kContract kNumber kTruth kDay
    simp [hc]
theorem rk_op {op t : Int} (ht : tyOk t) (h22 : (op == 22) = false) : kOf op t = (match rkP op with | some (ks, t') => bif t' == t then some ks else none | none => none) := by
  by_cases h : op < 0 ∨ 31 < op
  · obtain ⟨h1, -, h3⟩ := rk_out h
    rw [h1, h3]
  · have hn : ((op.toNat : Nat) : Int) = op := by omega
    have := rk_small ⟨op.toNat, by omega⟩ t (by rcases ht with h | h | h | h <;> simp [h]) (by simp only [hn]; simpa using h22)
    simp only [hn] at this
    exact this
theorem rk_tyOk {op t : Int} {ks : List Int} (h : rkP op = some (ks, t)) : tyOk t := by
  by_cases ho : op < 0 ∨ 31 < op
  · rw [(rk_out ho).1] at h; cases h
  · have hn : ((op.toNat : Nat) : Int) = op := by omega
    have := rk_ty ⟨op.toNat, by omega⟩
    simp only [hn, h, Option.map_some, Option.getD_some, Bool.or_eq_true, beq_iff_eq] at this
    unfold tyOk
    omega
theorem k22 {t : Int} : kOf 22 t = bif t == 4 then none else some [1, t, t] := by
  unfold kOf
  cases h : (t == 4) with
  | true => rfl
  | false => rfl
theorem if_shape {l : List Int} (h : ifF l = true) : ∃ y, l = [1, y, y] ∧ y ≠ 4 := by
  unfold ifF at h
  split at h
  · simp only [Bool.and_eq_true, beq_iff_eq, bne_iff_ne] at h
    obtain ⟨⟨rfl, rfl⟩, h3⟩ := h
    exact ⟨_, rfl, h3⟩
  · cases h
/-- How a term is right. -/
theorem typ_parts {d op k : Int} {t : List UInt8} {kids : List Co} {z : Int} : typF d (.mk op k t kids) = (z, true) ↔ (ownC op k t = true ∧ d ≤ 200 ∧ kids.length ≤ 3 ∧ ∃ l, tysF (d + 1) kids = some l ∧ endF op l = (z, true)) := by
  rw [typF, fld_own]
  cases h : (!ownC op k t || decide (d > 200) || decide ((kids.length : Int) > 3)) with
  | true =>
    simp only [cond_true]
    constructor
    · intro h; cases h
    · rintro ⟨h1, h2, h3, -⟩
      simp only [h1, Bool.not_true, Bool.false_or, Bool.or_eq_true, decide_eq_true_eq] at h
      omega
  | false =>
    simp only [Bool.or_eq_false_iff, Bool.not_eq_false', decide_eq_false_iff_not] at h
    obtain ⟨⟨h1, h2⟩, h3⟩ := h
    simp only [cond_false]
    cases hl : tysF (d + 1) kids with
    | none =>
      constructor
      · intro h; cases h
      · rintro ⟨-, -, -, l, h, -⟩; cases h
    | some l =>
      constructor
      · intro h; exact ⟨h1, by omega, by omega, l, rfl, h⟩
      · rintro ⟨-, -, -, l', h, h'⟩; cases h; exact h'
theorem tys_mem : ∀ {kids : List Co} {d : Int} {l : List Int}, tysF d kids = some l → ∀ c ∈ kids, (typF d c).2 = true
  | [], _, _, _ => by simp
  | c :: r, d, l, h => by
    rw [tysF] at h
    cases hc : (typF d c).2 with
    | false => rw [hc] at h; cases h
    | true =>
      rw [hc] at h
      cases hr : tysF d r with
      | none => rw [hr] at h; cases h
      | some q =>
        intro x hx
        rcases List.mem_cons.1 hx with e | e
        · rw [e]; exact hc
        · exact tys_mem hr x e
theorem typ_kids {d op k : Int} {t : List UInt8} {kids : List Co} (h : (typF d (.mk op k t kids)).2 = true) : ownC op k t = true ∧ d ≤ 200 ∧ ∀ c ∈ kids, (typF (d + 1) c).2 = true := by
  cases hc : typF d (.mk op k t kids) with
  | mk z b =>
  rw [hc] at h
  have hb : b = true := h
  subst hb
  obtain ⟨h1, h2, -, l, hl, -⟩ := typ_parts.1 hc
  exact ⟨h1, h2, tys_mem hl⟩
end Go.Proofs.YthnojedlndblbaaGreatDoor
namespace Go.Proofs.YthnojedlndblbaaGreatDoor
open Go Go.RowKit

def TP (c : Co) : Prop := ∀ d : Int, (∀ z, tyOk z → (okT z d c = true ↔ typF d c = (z, true))) ∧ ((typF d c).2 = true → tyOk (typF d c).1)
theorem tys_ok : ∀ (kids : List Co), (∀ c ∈ kids, TP c) → ∀ (d : Int) (l : List Int), (tysF d kids = some l ↔ l.length = kids.length ∧ (∀ z ∈ l, tyOk z) ∧ okTs d l kids = true)
  | [], _, d, l => by
    rw [tysF]
    unfold okTs
    constructor
    · rintro ⟨⟩; simp
    · rintro ⟨h, -⟩; rw [List.eq_nil_of_length_eq_zero h]
  | c :: r, ih, d, l => by
    obtain ⟨h1, h2⟩ := ih c (by simp) d
    have h3 := tys_ok r (fun c hc => ih c (by simp [hc])) d
    rw [tysF]
    cases hc : typF d c with
    | mk z b =>
    rw [hc] at h2
    cases b with
    | false =>
      simp only [cond_false]
      constructor
      · intro h; cases h
      · rintro ⟨e, ht, ho⟩
        cases l with
        | nil => cases e
        | cons x xs =>
          unfold okTs at ho
          simp only [Bool.and_eq_true] at ho
          have := (h1 x (ht x (by simp))).1 ho.1
          rw [hc] at this
          cases this
    | true =>
      simp only [cond_true]
      have hz := h2 rfl
      cases hr : tysF d r with
      | none =>
        constructor
        · intro h; cases h
        · rintro ⟨e, ht, ho⟩
          cases l with
          | nil => cases e
          | cons x xs =>
            unfold okTs at ho
            simp only [Bool.and_eq_true] at ho
            have := (h3 xs).2 ⟨by simpa using e, fun z hz => ht z (by simp [hz]), ho.2⟩
            rw [hr] at this
            cases this
      | some q =>
        have hq := (h3 q).1 hr
        constructor
        · intro h
          simp only [Option.map_some, Option.some.injEq] at h
          subst h
          refine ⟨by simp [hq.1], fun y hy => ?_, ?_⟩
          · rcases List.mem_cons.1 hy with e | e
            · rw [e]; exact hz
            · exact hq.2.1 y e
          · unfold okTs
            show (okT z d c && okTs d q r) = true
            rw [(h1 z hz).2 hc, hq.2.2]
            rfl
        · rintro ⟨e, ht, ho⟩
          cases l with
          | nil => cases e
          | cons x xs =>
            unfold okTs at ho
            simp only [Bool.and_eq_true] at ho
            have e1 := (h1 x (ht x (by simp))).1 ho.1
            rw [hc] at e1
            cases e1
            have e2 := (h3 xs).2 ⟨by simpa using e, fun z hz => ht z (by simp [hz]), ho.2⟩
            rw [hr] at e2
            cases e2
            rfl
theorem tp_all (c : Co) : TP c := by
  induction c using Co.ind with
  | h op k t kids ih =>
    intro d
    have hk := tys_ok kids ih (d + 1)
    refine ⟨fun z hz => ?_, fun h => ?_⟩
    · rw [typ_parts]
      constructor
      · intro ho
        unfold okT at ho
        cases hko : kOf op z with
        | none => rw [hko] at ho; cases ho
        | some ks =>
          rw [hko] at ho
          simp only [Bool.and_eq_true, beq_iff_eq, decide_eq_true_eq] at ho
          obtain ⟨⟨⟨h1, h2⟩, h3⟩, h4⟩ := ho
          have hl3 := kOf_len op z ks hko
          refine ⟨h2, h3, by omega, ks, (hk ks).2 ⟨by omega, kOf_ty hz ks hko, h4⟩, ?_⟩
          unfold endF
          cases h22 : (op == 22) with
          | true =>
            have e := eq_of_beq h22
            subst e
            rw [k22] at hko
            cases hz4 : (z == 4) with
            | true => rw [hz4] at hko; cases hko
            | false =>
              rw [hz4] at hko
              cases hko
              have : (z != 4) = true := by simp only [bne, hz4, Bool.not_false]
              simp only [cond_true, lastZ, ifF, beq_self_eq_true, Bool.true_and, this]
          | false =>
            rw [rk_op hz h22] at hko
            cases hr : rkP op with
            | none => rw [hr] at hko; cases hko
            | some q =>
              obtain ⟨ks', t'⟩ := q
              rw [hr] at hko
              simp only at hko
              cases ht' : (t' == z) with
              | false => rw [ht'] at hko; cases hko
              | true =>
                rw [ht'] at hko
                cases hko
                have := eq_of_beq ht'
                subst this
                simp
      · rintro ⟨h1, h2, h3, l, hl, he⟩
        obtain ⟨e1, e2, e3⟩ := (hk l).1 hl
        have fin : kOf op z = some l → okT z d (.mk op k t kids) = true := by
          intro hko
          unfold okT
          rw [hko]
          simp only [h1, e3, Bool.and_true, Bool.and_eq_true, beq_iff_eq, decide_eq_true_eq]
          exact ⟨by omega, h2⟩
        unfold endF at he
        cases h22 : (op == 22) with
        | true =>
          rw [h22, cond_true] at he
          simp only [Prod.mk.injEq] at he
          obtain ⟨y, rfl, hy⟩ := if_shape he.2
          have hyz : y = z := he.1
          subst hyz
          have e := eq_of_beq h22
          subst e
          refine fin ?_
          rw [k22]
          have : (y == 4) = false := by simpa using hy
          rw [this]
          rfl
        | false =>
          rw [h22, cond_false] at he
          refine fin ?_
          rw [rk_op hz h22]
          cases hr : rkP op with
          | none => rw [hr] at he; cases he
          | some q =>
            obtain ⟨ks', t'⟩ := q
            rw [hr] at he
            simp only at he
            cases hlen : ((ks'.length : Int) != (l.length : Int)) with
            | true => rw [hlen] at he; cases he
            | false =>
              rw [hlen, cond_false] at he
              cases hq : (ks' == l) with
              | false => rw [hq] at he; cases he
              | true =>
                rw [hq] at he
                cases he
                have := eq_of_beq hq
                subst this
                simp
    · cases hc : typF d (.mk op k t kids) with
      | mk z b =>
      rw [hc] at h
      have hb : b = true := h
      subst hb
      obtain ⟨-, -, -, l, hl, he⟩ := typ_parts.1 hc
      obtain ⟨e1, e2, e3⟩ := (hk l).1 hl
      unfold endF at he
      cases h22 : (op == 22) with
      | true =>
        rw [h22, cond_true] at he
        simp only [Prod.mk.injEq] at he
        obtain ⟨y, rfl, hy⟩ := if_shape he.2
        have hyz : y = z := he.1
        subst hyz
        exact e2 y (by simp)
      | false =>
        rw [h22, cond_false] at he
        cases hr : rkP op with
        | none => rw [hr] at he; cases he
        | some q =>
          obtain ⟨ks', t'⟩ := q
          rw [hr] at he
          simp only at he
          cases hlen : ((ks'.length : Int) != (l.length : Int)) with
          | true => rw [hlen] at he; cases he
          | false =>
            rw [hlen, cond_false] at he
            cases hq : (ks' == l) with
            | false => rw [hq] at he; cases he
            | true =>
              rw [hq] at he
              cases he
              exact rk_tyOk hr
def LP (c : Co) : Prop := ∀ (d m : Int), (typF d c).2 = true → 0 ≤ m → (szC c ≤ m → lefF m d c = m - szC c) ∧ (m < szC c → lefF m d c < 0)
theorem lef_row : ∀ (l : List Co), (∀ c ∈ l, LP c) → ∀ (d m : Int), (∀ c ∈ l, (typF d c).2 = true) → -1 ≤ m → (szL l ≤ m → lefL m d l = m - szL l) ∧ (m < szL l → lefL m d l < 0)
  | [], _, d, m, _, hm => by rw [lefL, szL]; omega
  | c :: r, ih, d, m, hk, hm => by
    have hp := szC_pos c
    have hq := szL_pos r
    rw [lefL, szL]
    cases hd : decide (m ≥ 0) with
    | false =>
      have := of_decide_eq_false hd
      simp only [cond_false]
      omega
    | true =>
      have hm0 := of_decide_eq_true hd
      obtain ⟨h1, h2⟩ := ih c (by simp) d m (hk c (by simp)) hm0
      have hlow := lef_low c m d hm0
      have h3 := lef_row r (fun c hc => ih c (by simp [hc])) d (lefF m d c) (fun c hc => hk c (by simp [hc])) hlow.1
      have h4 := lef_lowL r (lefF m d c) d hlow.1
      simp only [cond_true]
      by_cases hs : szC c ≤ m
      · rw [h1 hs] at h3 ⊢
        omega
      · have := h2 (by omega)
        omega
theorem lef_all (c : Co) : LP c := by
  induction c using Co.ind with
  | h op k t kids ih =>
    intro d m ht hm
    obtain ⟨-, hd, hk⟩ := typ_kids ht
    have h := lef_row kids ih (d + 1) (m - 1) hk (by omega)
    rw [lefF, szC, decide_eq_false (by omega), cond_false]
    omega
def rtyP (c : Co) : Int × Bool := bif smaP c then (bif (typF 1 c).2 then ((typF 1 c).1, true) else (0, false)) else (0, false)
theorem rty_eq (c : Co) : rtyP c = typP c := by
  obtain ⟨h1, h2⟩ := tp_all c 1
  have no : (∀ z, tyOk z → isOfP z c = false) → typP c = (0, false) := by
    intro h
    unfold typP
    rw [h 0 (.inl rfl), h 1 (.inr (.inl rfl)), h 2 (.inr (.inr (.inl rfl))), h 4 (.inr (.inr (.inr rfl)))]
    rfl
  cases hc : typF 1 c with
  | mk z b =>
  rw [hc] at h1 h2
  cases b with
  | false =>
    have : typP c = (0, false) := no fun x hx => by
      cases hi : isOfP x c with
      | false => rfl
      | true =>
        have := (h1 x hx).1 ((isOfP_eq x c).1 hi).1
        cases this
    rw [this]
    unfold rtyP
    rw [hc]
    cases smaP c <;> rfl
  | true =>
    have hz := h2 rfl
    have hl := lef_all c 1 2000 (by rw [hc]) (by omega)
    have hs : smaP c = decide (szC c ≤ 2000) := by
      unfold smaP
      by_cases h : szC c ≤ 2000
      · rw [hl.1 h, decide_eq_true h, decide_eq_true (by omega)]
      · rw [decide_eq_false h, decide_eq_false (by have := hl.2 (by omega); omega)]
    unfold rtyP
    rw [hs, hc]
    by_cases h : szC c ≤ 2000
    · have hi : ∀ x, tyOk x → isOfP x c = (x == z) := by
        intro x hx
        rw [Bool.eq_iff_iff, isOfP_eq, h1 x hx, beq_iff_eq]
        simp only [Prod.mk.injEq, and_true]
        exact ⟨fun h => h.1.symm, fun e => ⟨e.symm, h⟩⟩
      rw [decide_eq_true h]
      unfold typP
      rw [hi 0 (.inl rfl), hi 1 (.inr (.inl rfl)), hi 2 (.inr (.inr (.inl rfl))), hi 4 (.inr (.inr (.inr rfl)))]
      rcases hz with e | e | e | e <;> (have e' : z = _ := e; subst e'; rfl)
    · rw [decide_eq_false h]
      exact (no fun x hx => by
        cases hi : isOfP x c with
        | false => rfl
        | true => exact absurd ((isOfP_eq x c).1 hi).2 h).symm
theorem typ_right {c : Co} (h : (typP c).2 = true) : (typF 1 c).2 = true ∧ szC c ≤ 2000 := by
  obtain ⟨want, -, hi⟩ := typ_ex h
  refine ⟨?_, ((isOfP_eq want c).1 hi).2⟩
  rw [← rty_eq] at h
  unfold rtyP at h
  cases hs : smaP c with
  | false => rw [hs] at h; cases h
  | true =>
    rw [hs, cond_true] at h
    cases hc : (typF 1 c).2 with
    | true => rfl
    | false => rw [hc] at h; cases h
/-- What is checked is the same. -/
theorem chk_eq (c : Co) : chkP c = bif !(typP c).2 || (typP c).1 != 4 then 140 else bif ahC c then 141 else 0 := by
  cases h4 : isOfP 4 c with
  | true =>
    rw [chk_yes h4]
    obtain ⟨h1, h2⟩ := tp_all c 1
    have h5 := (h1 4 (.inr (.inr (.inr rfl)))).1 ((isOfP_eq 4 c).1 h4).1
    have h6 := typ4 h4
    have h7 : typP c = (4, true) := by
      rw [← rty_eq] at h6 ⊢
      unfold rtyP at h6 ⊢
      rw [h5] at h6 ⊢
      cases hs : smaP c with
      | false => rw [hs] at h6; cases h6
      | true => rfl
    rw [h7]
    rfl
  | false =>
    rw [chk_no h4]
    unfold typP
    cases isOfP 0 c with
    | true => rfl
    | false =>
      cases isOfP 1 c with
      | true => rfl
      | false =>
        cases isOfP 2 c with
        | true => rfl
        | false => rw [h4]; rfl
end Go.Proofs.YthnojedlndblbaaGreatDoor
namespace Go.Proofs.YthnojedlndblbaaGreatDoor
open Go Go.RowKit

end Go.Proofs.YthnojedlndblbaaGreatDoor
namespace Go.Proofs.YthnojedlndblbaaGreatDoor
open Go Go.RowKit

section
variable {P : Program} {F : Exit → Act → World → Prop} {Inv : World → Prop} {s : St}
/-- What an append of cells that are known does. -/
theorem append_coreA {base : Nat} {t e ty : TypeId} {size bytes : Nat} {v : Value} {n : Nat} {xs : List Value} {a : Addr} {m c : Nat} {news : List Value} {w : World}
    (hown : w.ownsRow base e size v n xs) (hbase : base ≤ w.heap.size) (hl : news.length = m * size) (hnews : ∀ j u, news[j]? = some u → w.cell? (a.add j) = some u) (h1 : ∀ u ∈ news, u.oneCell' = true) (hm0 : v ≠ .slice none 0 0 ∨ 0 < m) (h63 : n + m ≤ maxLen) (hbytes : (n + m) * bytes ≤ 140737488355328)
    (hel : elOk P t e size bytes = true) : ∃ b c' w', (Builtin.append_ #[t, t] ty #[v, .slice (some a) m c]).run P w = .ok (.slice (some ⟨b, 0, none⟩) (n + m) c') w' ∧ w'.ownsRow base e size (.slice (some ⟨b, 0, none⟩) (n + m) c') (n + m) (xs ++ news) ∧ w.grownBy w' v.ownBlock ∧ ((Value.slice (some ⟨b, 0, none⟩) (n + m) c').ownBlock = v.ownBlock ∨ (Value.slice (some ⟨b, 0, none⟩) (n + m) c').ownBlock = some w.heap.size) := by
  unfold elOk at hel
  simp only [Bool.and_eq_true, decide_eq_true_eq] at hel
  obtain ⟨⟨hu, hi⟩, hsz⟩ := hel
  cases hu1 : P.underlying t with
  | none => rw [hu1] at hu; cases hu
  | some d =>
    rw [hu1] at hu
    obtain rfl : d = .slice e := by
      cases d <;> simp at hu
      rw [hu]
    cases hi1 : P.info? e with
    | none => rw [hi1] at hi; cases hi
    | some i =>
      rw [hi1] at hi
      simp only [Bool.and_eq_true, beq_iff_eq] at hi
      cases hz1 : i.zero with
      | none => rw [hz1] at hi; simp at hi
      | some z0 =>
        rw [hz1] at hi
        obtain ⟨v', w', hrun, hown', hgr, hnil, hob⟩ := run_append_own_at (P := P) (w := w) base t ty e i z0 size bytes hu1 hi1 hz1 hi.1.1 hi.1.2 (eq_of_beq hi.2) hsz v n xs hown a m c news hl hnews h1 h63 hbytes hbase
        obtain ⟨b, c', rfl⟩ : ∃ b c', v' = .slice (some ⟨b, 0, none⟩) (n + m) c' := by
          rcases hown'.2 with ⟨h0, -⟩ | ⟨g, cap, cur, e, -⟩
          · obtain ⟨h2, h3⟩ := hnil.1 h0
            rcases hm0 with h4 | h4
            · exact absurd h2 h4
            · omega
          · exact ⟨_, _, e⟩
        exact ⟨b, c', w', hrun, hown', hgr, hob⟩
end
end Go.Proofs.YthnojedlndblbaaGreatDoor
