/- texts put together: CKidsM CBothM CRefA CRefF CRefK CRefT CRefT2 CRefL CRefN CRefM CStr -/
import Derived.Test.YthnojedlndblbabGreatDoorNGc
import Derived.Test.YthnojedlndblbabGreatDoorNGb
import Derived.Laws.MakeOwn
import Derived.Sort.Walk0
namespace Go.Proofs.YthnojedlndblbabGreatDoor
open Go

theorem isOfP_eq (want : Int) (c : Co) : isOfP want c = true ↔ (okT want 1 c = true ∧ szC c ≤ 2000) := by
  have h := (spec c want [] 0 1 (by omega) (by omega) (by omega) (by omega) (by simp)).2.1
  unfold isOfP
  rw [h]
  simp
mutual
theorem okT_up (want d : Int) : ∀ c : Co, okT want (d + 1) c = true → okT want d c = true
  | .mk op k t kids => by
    unfold okT
    cases kOf op want with
    | none => simp
    | some ks =>
      simp only [Bool.and_eq_true, decide_eq_true_eq]
      rintro ⟨⟨h1, h2⟩, h3⟩
      exact ⟨⟨h1, by omega⟩, okTs_up (d + 1) ks kids h3⟩
theorem okTs_up (d : Int) (ks : List Int) : ∀ l : List Co, okTs (d + 1) ks l = true → okTs d ks l = true
  | [] => by unfold okTs; simp
  | c :: r => by
    unfold okTs
    cases ks with
    | nil => simp
    | cons x xs =>
      simp only [Bool.and_eq_true]
      rintro ⟨h1, h2⟩
      exact ⟨okT_up x d c h1, okTs_up d xs r h2⟩
end
theorem ty_cond {b : Bool} {x y : Option (List Int)} (hx : ∀ l, x = some l → ∀ z ∈ l, tyOk z) (hy : ∀ l, y = some l → ∀ z ∈ l, tyOk z) : ∀ l, (bif b then x else y) = some l → ∀ z ∈ l, tyOk z := by
  cases b <;> assumption
theorem ty_some {l0 : List Int} (h : ∀ z ∈ l0, tyOk z) : ∀ l, some l0 = some l → ∀ z ∈ l, tyOk z := by rintro l ⟨⟩; exact h
theorem ty_none : ∀ l : List Int, none = some l → ∀ z ∈ l, tyOk z := by intro l h; cases h
theorem kOf_ty {op want : Int} (hw : tyOk want) : ∀ l, kOf op want = some l → ∀ z ∈ l, tyOk z := by
  unfold kOf kContract kNumber kTruth kDay
  unfold tyOk at hw
  repeat' first | exact ty_none | refine ty_cond ?_ ?_ | (refine ty_some ?_; intro z hz; simp only [List.mem_cons, List.not_mem_nil, or_false] at hz; done) | (refine ty_some ?_; intro z hz; simp only [List.mem_cons, List.not_mem_nil, or_false] at hz; unfold tyOk; omega)
theorem typ_of {want : Int} (hw : tyOk want) {c : Co} (h : isOfP want c = true) : (typP c).2 = true := by
  unfold typP
  cases h0 : isOfP 0 c with
  | true => rfl
  | false =>
    cases h1 : isOfP 1 c with
    | true => rfl
    | false =>
      cases h2 : isOfP 2 c with
      | true => rfl
      | false =>
        cases h4 : isOfP 4 c with
        | true => rfl
        | false =>
          exfalso
          rcases hw with rfl | rfl | rfl | rfl
          · rw [h0] at h; cases h
          · rw [h1] at h; cases h
          · rw [h2] at h; cases h
          · rw [h4] at h; cases h
theorem typ_ex {c : Co} (h : (typP c).2 = true) : ∃ want, tyOk want ∧ isOfP want c = true := by
  unfold typP at h
  cases h0 : isOfP 0 c with
  | true => exact ⟨0, .inl rfl, h0⟩
  | false =>
    cases h1 : isOfP 1 c with
    | true => exact ⟨1, .inr (.inl rfl), h1⟩
    | false =>
      cases h2 : isOfP 2 c with
      | true => exact ⟨2, .inr (.inr (.inl rfl)), h2⟩
      | false =>
        cases h4 : isOfP 4 c with
        | true => exact ⟨4, .inr (.inr (.inr rfl)), h4⟩
        | false => rw [h0, h1, h2, h4] at h; cases h
mutual
def hzC : Co → Int
  | .mk op k _ kids => max (bif dateP op then k else 0) (hzL kids)
def hzL : List Co → Int
  | [] => 0
  | c :: r => max (hzC c) (hzL r)
end
mutual
theorem hz_walk (d x : Int) : ∀ c : Co, 0 ≤ x → walkP (askF hzF) x d c = (max x (hzC c), true)
  | .mk op k t kids, h0 => by
    unfold hzC
    unfold walkP askF hzF
    have hh := hzL_pos kids
    cases hd : dateP op with
    | true =>
      simp only [hd, cond_true]
      have := hz_walkK (IntKind.i64.wrap (d + 1)) (if k > x then k else x) kids (by split <;> omega)
      unfold askF hzF at this
      rw [this]
      congr 1
      split <;> omega
    | false =>
      simp only [hd, cond_false]
      have := hz_walkK (IntKind.i64.wrap (d + 1)) x kids h0
      unfold askF hzF at this
      rw [this]
      congr 1
      omega
theorem hz_walkK (d x : Int) : ∀ l : List Co, 0 ≤ x → walkK (askF hzF) x d l = (max x (hzL l), true)
  | [], h0 => by unfold walkK hzL; congr 1; omega
  | c :: r, h0 => by
    unfold hzL
    unfold walkK
    rw [hz_walk d x c h0]
    simp only
    rw [hz_walkK d _ r (by omega)]
    congr 1
    omega
theorem hzL_pos : ∀ l : List Co, 0 ≤ hzL l
  | [] => by unfold hzL; omega
  | c :: r => by unfold hzL; have := hzL_pos r; omega
end
theorem hz_eq {c : Co} (h : (typP c).2 = true) : askP hzF 0 c = max 0 (hzC c) := by
  unfold askP
  rw [h, hz_walk 1 0 c (by omega)]
  rfl
end Go.Proofs.YthnojedlndblbabGreatDoor
namespace Go.Proofs.YthnojedlndblbabGreatDoor
open Go

mutual
def dpC : Co → Int
  | .mk _ _ _ kids => 1 + dpL kids
def dpL : List Co → Int
  | [] => 0
  | c :: r => max (dpC c) (dpL r)
end
theorem dpL_pos : ∀ l : List Co, 0 ≤ dpL l
  | [] => by unfold dpL; omega
  | c :: r => by unfold dpL; have := dpL_pos r; omega
mutual
theorem okT_dp (want d : Int) : ∀ c : Co, okT want (d + 1) c = true ↔ (okT want d c = true ∧ d + dpC c ≤ 200)
  | .mk op k t kids => by
    unfold okT dpC
    have hp := dpL_pos kids
    cases kOf op want with
    | none => simp
    | some ks =>
      simp only [Bool.and_eq_true, decide_eq_true_eq]
      constructor
      · rintro ⟨⟨h1, h2⟩, h3⟩
        have := (okTs_dp (d + 1) ks kids (by omega)).1 h3
        exact ⟨⟨⟨h1, by omega⟩, this.1⟩, by omega⟩
      · rintro ⟨⟨⟨h1, h2⟩, h3⟩, h4⟩
        exact ⟨⟨h1, by omega⟩, (okTs_dp (d + 1) ks kids (by omega)).2 ⟨h3, by omega⟩⟩
theorem okTs_dp (d : Int) (ks : List Int) : ∀ l : List Co, d ≤ 200 → (okTs (d + 1) ks l = true ↔ (okTs d ks l = true ∧ d + dpL l ≤ 200))
  | [], h => by unfold okTs dpL; simp; omega
  | c :: r, h => by
    unfold okTs dpL
    cases ks with
    | nil => simp
    | cons x xs =>
      simp only [Bool.and_eq_true]
      rw [okT_dp x d c, okTs_dp d xs r h]
      constructor
      · rintro ⟨⟨h1, h2⟩, h3, h4⟩; exact ⟨⟨h1, h3⟩, by omega⟩
      · rintro ⟨⟨h1, h2⟩, h3⟩; exact ⟨⟨h1, by omega⟩, h2, by omega⟩
end
mutual
/-- Does it look ahead? -/
def ahC : Co → Bool
  | .mk op k _ kids => (lookP op && decide (k < 0)) || ahL kids
def ahL : List Co → Bool
  | [] => false
  | c :: r => ahC c || ahL r
end
mutual
theorem ck_walk (d x : Int) : ∀ c : Co, walkP (askF ckF) x d c = (bif ahC c then 141 else x, true)
  | .mk op k t kids => by
    unfold ahC
    unfold walkP askF ckF
    cases h1 : lookP op with
    | true =>
      cases h2 : decide (k < 0) with
      | true =>
        have := ck_walkK (IntKind.i64.wrap (d + 1)) 141 kids
        unfold askF ckF at this
        simp only [h1, h2, cond_true, this, Bool.true_and, Bool.true_or]
        cases ahL kids <;> rfl
      | false =>
        have := ck_walkK (IntKind.i64.wrap (d + 1)) x kids
        unfold askF ckF at this
        simp only [h1, h2, cond_true, cond_false, this, Bool.true_and, Bool.false_or]
    | false =>
      have := ck_walkK (IntKind.i64.wrap (d + 1)) x kids
      unfold askF ckF at this
      simp only [h1, cond_false, this, Bool.false_and, Bool.false_or]
theorem ck_walkK (d x : Int) : ∀ l : List Co, walkK (askF ckF) x d l = (bif ahL l then 141 else x, true)
  | [] => by unfold walkK ahL; rfl
  | c :: r => by
    unfold ahL
    unfold walkK
    rw [ck_walk d x c]
    simp only
    rw [ck_walkK d _ r]
    cases ahC c <;> cases ahL r <;> rfl
end
theorem typ4 {c : Co} (h : isOfP 4 c = true) : (typP c).2 = true := typ_of (.inr (.inr (.inr rfl))) h
theorem chk_no {c : Co} (h : isOfP 4 c = false) : chkP c = 140 := by unfold chkP; rw [h]; rfl
theorem chk_yes {c : Co} (h : isOfP 4 c = true) : chkP c = bif ahC c then 141 else 0 := by
  unfold chkP askP
  rw [h, typ4 h, ck_walk 1 0 c]
  rfl
end Go.Proofs.YthnojedlndblbabGreatDoor
namespace Go.Proofs.YthnojedlndblbabGreatDoor
open Go Go.RowKit

set_option maxRecDepth 100000 in
seal rn Goes ans atEnd put0 putM opened putA0 oneSt st0 in
theorem rsmall_any : Srt 59 cLet := by
  intro z w
  refine Goes.begin Tryz.func59 [] (fun _ => True) Holds.nil (by simp [Mem.ids]) (fun _ _ => trivial) ?_
  cases h : decide ((97 : Int) ≤ z) with
  | true =>
    refine Goes.run [1] [(decide ((97 : Int) ≤ z), true)] ⟨h, trivial⟩ ?_
    exact Goes.ret [] (.bool (decide (z ≤ 122))) fun w' hm hI => ⟨by simp only [cLet, h, Bool.true_and], bel0 hI⟩
  | false =>
    refine Goes.run [0] [(decide ((97 : Int) ≤ z), false)] ⟨h, trivial⟩ ?_
    exact Goes.ret [] (.bool false) fun w' hm hI => ⟨by simp only [cLet, h, Bool.false_and], bel0 hI⟩
set_option maxRecDepth 100000 in
seal rn Goes ans atEnd put0 putM opened putA0 oneSt st0 in
theorem rdigit_any : Srt 71 cDig := by
  intro z w
  refine Goes.begin Tryz.func71 [] (fun _ => True) Holds.nil (by simp [Mem.ids]) (fun _ _ => trivial) ?_
  cases h : decide ((48 : Int) ≤ z) with
  | true =>
    refine Goes.run [1] [(decide ((48 : Int) ≤ z), true)] ⟨h, trivial⟩ ?_
    exact Goes.ret [] (.bool (decide (z ≤ 57))) fun w' hm hI => ⟨by simp only [cDig, h, Bool.true_and], bel0 hI⟩
  | false =>
    refine Goes.run [0] [(decide ((48 : Int) ≤ z), false)] ⟨h, trivial⟩ ?_
    exact Goes.ret [] (.bool false) fun w' hm hI => ⟨by simp only [cDig, h, Bool.false_and], bel0 hI⟩
set_option maxRecDepth 100000 in
seal rn Goes ans atEnd put0 putM opened putA0 oneSt st0 in
theorem rinner_any : Srt 60 cIn := by
  intro z w
  refine Goes.begin Tryz.func60 [] (fun _ => True) Holds.nil (by simp [Mem.ids]) (fun _ _ => trivial) ?_
  refine Goes.run [] [] trivial ?_
  refine Goes.call0 59 #[.int .u8 z] (.bool (cLet z)) (fun w' _ _ => rsmall_any z w') ?_
  cases h : cLet z with
  | true =>
    refine Goes.run [1, 1] [(true, true), (true, true)] ⟨rfl, rfl, trivial⟩ ?_
    exact Goes.ret [] (.bool true) fun w' hm hI => ⟨by simp only [cIn, h, Bool.true_or], bel0 hI⟩
  | false =>
    refine Goes.run [0] [(false, false)] ⟨rfl, trivial⟩ ?_
    refine Goes.call0 71 #[.int .u8 z] (.bool (cDig z)) (fun w' _ _ => rdigit_any z w') ?_
    cases h2 : cDig z with
    | true =>
      refine Goes.run [1] [(true, true)] ⟨rfl, trivial⟩ ?_
      exact Goes.ret [] (.bool true) fun w' hm hI => ⟨by simp only [cIn, h, h2, Bool.true_or, Bool.false_or], bel0 hI⟩
    | false =>
      refine Goes.run [0] [(false, false)] ⟨rfl, trivial⟩ ?_
      exact Goes.ret [] (.bool (z == 95)) fun w' hm hI => ⟨by simp only [cIn, h, h2, Bool.false_or], bel0 hI⟩
def tkIn (l : List UInt8) : Nat := (l.takeWhile fun y => cIn (y.toNat : Nat)).length
def spanL : List UInt8 → Nat
  | [] => 0
  | x :: r => bif cLet (x.toNat : Nat) then 1 + tkIn r else 0
set_option maxRecDepth 100000 in
seal rn Goes ans atEnd put0 putM opened putA0 oneSt st0 in
theorem rspan_any (l : List UInt8) (w : World) (hl : l.length ≤ 9223372036854775807) : Calls Tryz.prog 44 #[strV l, .int .i64 0] w fun e w' => e = .returned (.int .i64 (spanL l : Nat)) ∧ Below w.heap.size w w' := by
  refine Goes.begin Tryz.func44 [] (fun _ => True) Holds.nil (by simp [Mem.ids]) (fun _ _ => trivial) ?_
  cases h0 : decide ((0 : Int) ≥ (l.length : Int)) with
  | true =>
    obtain rfl : l = [] := List.eq_nil_of_length_eq_zero (by have := of_decide_eq_true h0; omega)
    refine Goes.run [1] [(true, true)] ⟨rfl, trivial⟩ ?_
    exact Goes.ret [] (.int .i64 0) fun w' hm hI => ⟨rfl, bel0 hI⟩
  | false =>
    have hp : 0 < l.length := by have := of_decide_eq_false h0; omega
    obtain ⟨x, hx⟩ : ∃ x, l[0]? = some x := ⟨l[0], by simp⟩
    have hs : spanL l = bif cLet (x.toNat : Nat) then 1 + tkIn (l.drop 1) else 0 := by
      cases l with
      | nil => cases hx
      | cons y r => cases hx; rfl
    refine Goes.run [0] [(decide ((0 : Int) ≥ (l.length : Int)), false)] ⟨h0, trivial⟩ ?_
    refine Goes.val (Instr.index 9 (strV l) (.int .i64 (0 : Nat))) (.int .u8 (x.toNat : Nat)) (fun w' _ _ => idxB hx w') ?_
    refine Goes.call0 59 #[.int .u8 (x.toNat : Nat)] (.bool (cLet (x.toNat : Nat))) (fun w' _ _ => rsmall_any _ w') ?_
    cases h : cLet (x.toNat : Nat) with
    | false =>
      refine Goes.run [1] [(true, true)] ⟨rfl, trivial⟩ ?_
      exact Goes.ret [] (.int .i64 0) fun w' hm hI => ⟨by rw [hs, h]; rfl, bel0 hI⟩
    | true =>
      refine Goes.run [0] [(false, false)] ⟨rfl, trivial⟩ ?_
      rw [hs, h, cond_true]
      refine Goes.loop0 (α := Nat) 34 (fun j => [(0, strV l), (1, .int .i64 0), (6, .int .i64 j)]) [] (fun j => 1 + tkIn (l.drop 1) = j + tkIn (l.drop j) ∧ j ≤ l.length) (fun j => l.length - j) 1 ⟨rfl, by omega⟩ ?_
      rintro j J ⟨hj, hj2⟩ back
      have hz : IntKind.i64.wrap (0 + (j : Int)) = (j : Int) := by rw [IntWalk.i64_in _ ⟨by omega, by omega⟩]; omega
      cases hlt : decide ((j : Int) < (l.length : Int)) with
      | false =>
        refine Goes.run [0, 0, 0] [(false, false), (decide (IntKind.i64.wrap (0 + (j : Int)) < (l.length : Int)), false)] ⟨rfl, by rw [hz]; exact hlt, trivial⟩ ?_
        exact Goes.ret [] (.int .i64 j) fun w' hm hI => ⟨by rw [hj, List.drop_of_length_le (by have := of_decide_eq_false hlt; omega)]; rfl, bel0 hI⟩
      | true =>
        have hjl : j < l.length := by have := of_decide_eq_true hlt; omega
        obtain ⟨y, hy⟩ : ∃ y, l[j]? = some y := ⟨l[j], by simp⟩
        have hd : l.drop j = y :: l.drop (j + 1) := by
          obtain ⟨h1, h2⟩ := List.getElem?_eq_some_iff.1 hy
          rw [List.drop_eq_getElem_cons h1, h2]
        refine Goes.run [0, 1] [(decide (IntKind.i64.wrap (0 + (j : Int)) < (l.length : Int)), true)] ⟨by rw [hz]; exact hlt, trivial⟩ ?_
        refine Goes.val (Instr.index 9 (strV l) (.int .i64 (IntKind.i64.wrap (0 + (j : Int))))) (.int .u8 (y.toNat : Nat)) (fun w' _ _ => by rw [hz]; exact idxB hy w') ?_
        refine Goes.call0 60 #[.int .u8 (y.toNat : Nat)] (.bool (cIn (y.toNat : Nat))) (fun w' _ _ => rinner_any _ w') ?_
        cases hc : cIn (y.toNat : Nat) with
        | false =>
          refine Goes.run [0] [(false, false)] ⟨rfl, trivial⟩ ?_
          exact Goes.ret [] (.int .i64 j) fun w' hm hI => ⟨by rw [hj, hd]; simp [tkIn, hc], bel0 hI⟩
        | true =>
          refine Goes.run [1] [(true, true)] ⟨rfl, trivial⟩ ?_
          refine Goes.slot 6 (.int .i64 (j + 1 : Nat)) (u := .int .i64 (IntKind.i64.wrap ((j : Int) + 1))) (congrArg _ (wrap_nat (by omega))) ?_
          exact back (j + 1) _ ⟨by rw [hj, hd]; simp only [tkIn, List.takeWhile_cons, hc, if_true, List.length_cons]; omega, by omega⟩ (by omega) (by kernel_rfl) (by kernel_rfl) (by kernel_rfl)
theorem tk_all (l : List UInt8) : (tkIn l == l.length) = allB cIn l := by
  unfold tkIn allB
  induction l with
  | nil => rfl
  | cons x r ih =>
    cases h : cIn (x.toNat : Nat) with
    | true => simp only [List.takeWhile_cons, List.all_cons, h, if_true, List.length_cons, Bool.true_and, ← ih]; rw [Bool.eq_iff_iff, beq_iff_eq, beq_iff_eq]; omega
    | false => simp [h]
theorem span_name (l : List UInt8) (h0 : 0 < l.length) : (((spanL l : Nat) : Int) == (l.length : Int)) = (cLet ((l.getD 0 0).toNat : Nat) && allB cIn l) := by
  cases l with
  | nil => simp at h0
  | cons x r =>
    have e : (((spanL (x :: r) : Nat) : Int) == ((x :: r).length : Int)) = (spanL (x :: r) == (x :: r).length) := by
      rw [Bool.eq_iff_iff, beq_iff_eq, beq_iff_eq]; omega
    rw [e]
    simp only [spanL, List.getD_cons_zero]
    cases h : cLet (x.toNat : Nat) with
    | false => simp
    | true =>
      have h2 : cIn (x.toNat : Nat) = true := by simp only [cIn, h, Bool.true_or]
      simp only [cond_true, Bool.true_and, List.length_cons]
      have := tk_all r
      unfold allB at this ⊢
      rw [List.all_cons, h2, Bool.true_and, ← this, Bool.eq_iff_iff, beq_iff_eq, beq_iff_eq]
      omega
set_option maxRecDepth 100000 in
seal rn Goes ans atEnd put0 putM opened putA0 oneSt st0 in
theorem rname_any (l : List UInt8) (w : World) (hl : l.length ≤ 9223372036854775807) : Calls Tryz.prog 26 #[strV l] w fun e w' => e = .returned (.bool (namP l)) ∧ Below w.heap.size w w' := by
  refine Goes.begin Tryz.func26 [] (fun _ => True) Holds.nil (by simp [Mem.ids]) (fun _ _ => trivial) ?_
  cases h0 : decide ((0 : Int) < (l.length : Int)) with
  | false =>
    refine Goes.run [0, 0] [(false, false), (decide ((0 : Int) < (l.length : Int)), false)] ⟨rfl, h0, trivial⟩ ?_
    exact Goes.ret [] (.bool false) fun w' hm hI => ⟨by simp only [namP, h0, Bool.false_and], bel0 hI⟩
  | true =>
    cases h1 : decide ((l.length : Int) ≤ 24) with
    | false =>
      refine Goes.run [1, 0] [(decide ((l.length : Int) ≤ 24), false), (decide ((0 : Int) < (l.length : Int)), true)] ⟨h1, h0, trivial⟩ ?_
      exact Goes.ret [] (.bool false) fun w' hm hI => ⟨by simp only [namP, h0, h1, Bool.true_and, Bool.false_and], bel0 hI⟩
    | true =>
      refine Goes.run [1, 1] [(decide ((l.length : Int) ≤ 24), true), (decide ((0 : Int) < (l.length : Int)), true)] ⟨h1, h0, trivial⟩ ?_
      refine Goes.call0 44 #[strV l, .int .i64 0] (.int .i64 (spanL l : Nat)) (fun w' _ _ => rspan_any l w' hl) ?_
      refine Goes.run [] [] trivial ?_
      exact Goes.ret [] (.bool (((spanL l : Nat) : Int) == (l.length : Int))) fun w' hm hI => ⟨by rw [span_name l (by have := of_decide_eq_true h0; omega)]; simp only [namP, h0, h1, Bool.true_and], bel0 hI⟩
set_option maxRecDepth 100000 in
seal rn Goes ans atEnd put0 putM opened putA0 oneSt st0 in
theorem rcur_any (l : List UInt8) (w : World) : Calls Tryz.prog 70 #[strV l] w fun e w' => e = .returned (.bool (curP l)) ∧ Below w.heap.size w w' := by
  refine Goes.begin Tryz.func70 [] (fun _ => True) Holds.nil (by simp [Mem.ids]) (fun _ _ => trivial) ?_
  cases h : ((l.length : Int) == 3) with
  | false =>
    refine Goes.run [1] [((l.length : Int) != 3, true)] ⟨by simp only [bne, h, Bool.not_false], trivial⟩ ?_
    exact Goes.ret [] (.bool false) fun w' hm hI => ⟨by simp only [curP, h, Bool.false_and], bel0 hI⟩
  | true =>
    have h3 : l.length = 3 := by have := eq_of_beq h; omega
    refine Goes.run [0] [((l.length : Int) != 3, false)] ⟨by simp only [bne, h, Bool.not_true], trivial⟩ ?_
    have hs : curP l = allB cCap l := by simp only [curP, h, Bool.true_and]
    rw [hs]
    refine Goes.loop0 (α := Nat) 21 (fun j => [(0, strV l), (3, .int .i64 j)]) [] (fun j => allB cCap (l.drop j) = allB cCap l ∧ j ≤ 3) (fun j => 3 - j) 0 ⟨rfl, Nat.zero_le _⟩ ?_
    rintro j J ⟨hj, hj2⟩ back
    cases hlt : decide ((j : Int) < (3 : Int)) with
    | false =>
      refine Goes.run [0, 0] [(decide ((j : Int) < (3 : Int)), false)] ⟨hlt, trivial⟩ ?_
      exact Goes.ret [] (.bool true) fun w' hm hI => ⟨by rw [← hj, List.drop_of_length_le (by have := of_decide_eq_false hlt; omega)]; rfl, bel0 hI⟩
    | true =>
      have hjl : j < 3 := by have := of_decide_eq_true hlt; omega
      obtain ⟨y, hy⟩ : ∃ y, l[j]? = some y := ⟨l[j]'(by omega), by simp⟩
      have hd : l.drop j = y :: l.drop (j + 1) := by
        obtain ⟨h1, h2⟩ := List.getElem?_eq_some_iff.1 hy
        rw [List.drop_eq_getElem_cons h1, h2]
      refine Goes.run [0, 1] [(decide ((j : Int) < (3 : Int)), true)] ⟨hlt, trivial⟩ ?_
      refine Goes.val (Instr.index 9 (strV l) (.int .i64 j)) (.int .u8 (y.toNat : Nat)) (fun w' _ _ => idxB hy w') ?_
      cases hc1 : decide (((y.toNat : Nat) : Int) < 65) with
      | true =>
        refine Goes.run [1, 1] [(true, true), (decide (((y.toNat : Nat) : Int) < 65), true)] ⟨rfl, hc1, trivial⟩ ?_
        exact Goes.ret [] (.bool false) fun w' hm hI => ⟨by
          have h2 : cCap (y.toNat : Nat) = false := by unfold cCap; have := of_decide_eq_true hc1; rw [decide_eq_false (by omega)]; rfl
          rw [← hj, hd]; simp [allB, h2], bel0 hI⟩
      | false =>
        refine Goes.run [0] [(decide (((y.toNat : Nat) : Int) < 65), false)] ⟨hc1, trivial⟩ ?_
        refine Goes.val (Instr.index 9 (strV l) (.int .i64 j)) (.int .u8 (y.toNat : Nat)) (fun w' _ _ => idxB hy w') ?_
        have h65 := of_decide_eq_false hc1
        cases hc2 : decide (((y.toNat : Nat) : Int) > 90) with
        | true =>
          refine Goes.run [1] [(decide (((y.toNat : Nat) : Int) > 90), true)] ⟨hc2, trivial⟩ ?_
          exact Goes.ret [] (.bool false) fun w' hm hI => ⟨by
            have h2 : cCap (y.toNat : Nat) = false := by unfold cCap; have := of_decide_eq_true hc2; rw [decide_eq_false (p := _ ≤ (90 : Int)) (by omega), Bool.and_false]
            rw [← hj, hd]; simp [allB, h2], bel0 hI⟩
        | false =>
          refine Goes.run [0] [(decide (((y.toNat : Nat) : Int) > 90), false)] ⟨hc2, trivial⟩ ?_
          refine Goes.slot 3 (.int .i64 (j + 1 : Nat)) (u := .int .i64 (IntKind.i64.wrap ((j : Int) + 1))) (congrArg _ (wrap_nat (by omega))) ?_
          have h2 : cCap (y.toNat : Nat) = true := by unfold cCap; have := of_decide_eq_false hc2; rw [decide_eq_true (by omega), decide_eq_true (by omega)]; rfl
          exact back (j + 1) _ ⟨by rw [← hj, hd]; simp [allB, h2], by omega⟩ (by omega) (by kernel_rfl) (by kernel_rfl) (by kernel_rfl)
end Go.Proofs.YthnojedlndblbabGreatDoor
namespace Go.Proofs.YthnojedlndblbabGreatDoor
open Go Go.RowKit

theorem neE (l : List UInt8) (w : World) : (do eqGuard .neq 9 (.tmp 52) (.const (strV [])) (strV l) (strV []); binOp .neq 9 (strV l) (strV []) : Sem Value).run Tryz.prog w = .ok (.bool (!decide (l = []))) w := by
  have : (eqGuard .neq 9 (.tmp 52) (.const (strV [])) (strV l) (strV [])).run Tryz.prog w = .ok () w := by
    unfold eqGuard strV; go_simp
  simp only [Sem.run_bind, this, Result.andThen_ok, neqS l [] (!decide (l = [])) (by simp) w]
def fldP (op k : Int) (t : List UInt8) : Bool :=
  bif op == 4 then namP t && inW k (-3660) 3660 else bif op == 31 then namP t && inW k 0 73048 else bif op == 24 then curP t && k == 0 else
  bif !decide (t = []) then false else bif op == 1 then inW k (-1000000000000000) 1000000000000000 else bif op == 2 then k == 0 || k == 1 else bif op == 3 || op == 29 || op == 30 then inW k 0 73048 else bif op == 5 then inW k (-3660) 3660 else k == 0
set_option maxRecDepth 100000 in
seal rn rnS Goes ans atEnd put0 putM opened putA0 oneSt st0 in
theorem fld_any (op k : Int) (t : List UInt8) (a : Option Addr) (N c : Nat) (w : World) (ht : t.length ≤ 9223372036854775807) : Calls Tryz.prog 56 #[cv op k t (.slice a N c)] w fun e w' => e = .returned (.bool (fldP op k t)) ∧ Below w.heap.size w w' := by
  refine Goes.begin Tryz.func56 [] (fun _ => True) Holds.nil (by simp [Mem.ids]) (fun _ _ => trivial) ?_
  refine Goes.run1 [0] [] trivial fun g => ?_
  refine Goes.call0 26 #[strV t] (.bool (namP t)) (fun w' _ _ => rname_any t w' ht) ?_
  refine Goes.run [0] [] trivial ?_
  refine Goes.call0 70 #[strV t] (.bool (curP t)) (fun w' _ _ => rcur_any t w') ?_
  refine Goes.fork (decide (0 ≤ k)) 21 87 [(1, .pointer (some ⟨g, 0, none⟩)), (3, .bool (namP t)), (4, .bool (curP t)), (5, .bool (inW k 0 73048))]
    [(1, .pointer (some ⟨g, 0, none⟩)), (3, .bool (namP t)), (4, .bool (curP t)), (5, .bool (decide (k ≤ 73048)))] [(1, .pointer (some ⟨g, 0, none⟩)), (3, .bool (namP t)), (4, .bool (curP t)), (5, .bool false)] [0, 1, 0] [0, 0] [(decide (0 ≤ k), true)] [(decide (0 ≤ k), false)]
    (fun h => ⟨by simp only [inW, h, Bool.true_and], h, trivial⟩) (fun h => ⟨by simp only [inW, h, Bool.false_and], h, trivial⟩) fun J1 => ?_
  refine Goes.fork (decide (-3660 ≤ k)) 29 87 [(1, .pointer (some ⟨g, 0, none⟩)), (3, .bool (namP t)), (4, .bool (curP t)), (5, .bool (inW k 0 73048)), (6, .bool (inW k (-3660) 3660))]
    [(1, .pointer (some ⟨g, 0, none⟩)), (3, .bool (namP t)), (4, .bool (curP t)), (5, .bool (inW k 0 73048)), (6, .bool (decide (k ≤ 3660)))] [(1, .pointer (some ⟨g, 0, none⟩)), (3, .bool (namP t)), (4, .bool (curP t)), (5, .bool (inW k 0 73048)), (6, .bool false)] [0, 1, 0] [0, 0] [(decide (-3660 ≤ k), true)] [(decide (-3660 ≤ k), false)]
    (fun h => ⟨by simp only [inW, h, Bool.true_and], h, trivial⟩) (fun h => ⟨by simp only [inW, h, Bool.false_and], h, trivial⟩) fun J2 => ?_
  cases h4 : (op == 4) with
  | true =>
    have e : fldP op k t = (namP t && inW k (-3660) 3660) := by unfold fldP; rw [h4] <;> rfl
    rw [e]
    cases hn : namP t with
    | true =>
      refine Goes.run [0, 1, 1] [(true, true), (op == 4, true)] ⟨rfl, h4, trivial⟩ ?_
      exact Goes.ret [] (.bool (inW k (-3660) 3660)) fun w' hm hI => ⟨by rw [Bool.true_and], bel0 hI⟩
    | false =>
      refine Goes.run [0, 1, 0] [(false, false), (op == 4, true)] ⟨rfl, h4, trivial⟩ ?_
      exact Goes.ret [] (.bool false) fun w' hm hI => ⟨by rw [Bool.false_and], bel0 hI⟩
  | false =>
  cases h31 : (op == 31) with
  | true =>
    have e : fldP op k t = (namP t && inW k 0 73048) := by unfold fldP; rw [h4, h31] <;> rfl
    rw [e]
    cases hn : namP t with
    | true =>
      refine Goes.run [0, 0, 1, 1] [(true, true), (op == 31, true), (op == 4, false)] ⟨rfl, h31, h4, trivial⟩ ?_
      exact Goes.ret [] (.bool (inW k 0 73048)) fun w' hm hI => ⟨by rw [Bool.true_and], bel0 hI⟩
    | false =>
      refine Goes.run [0, 0, 1, 0] [(false, false), (op == 31, true), (op == 4, false)] ⟨rfl, h31, h4, trivial⟩ ?_
      exact Goes.ret [] (.bool false) fun w' hm hI => ⟨by rw [Bool.false_and], bel0 hI⟩
  | false =>
  cases h24 : (op == 24) with
  | true =>
    have e : fldP op k t = (curP t && k == 0) := by unfold fldP; rw [h4, h31, h24] <;> rfl
    rw [e]
    cases hn : curP t with
    | true =>
      refine Goes.run [0, 0, 0, 1, 1, 0] [(true, true), (op == 24, true), (op == 31, false), (op == 4, false)] ⟨rfl, h24, h31, h4, trivial⟩ ?_
      exact Goes.ret [] (.bool (k == 0)) fun w' hm hI => ⟨by rw [Bool.true_and], bel0 hI⟩
    | false =>
      refine Goes.run [0, 0, 0, 1, 0] [(false, false), (op == 24, true), (op == 31, false), (op == 4, false)] ⟨rfl, h24, h31, h4, trivial⟩ ?_
      exact Goes.ret [] (.bool false) fun w' hm hI => ⟨by rw [Bool.false_and], bel0 hI⟩
  | false =>
  refine Goes.upto 53 [0, 0, 0, 0, 0] [(op == 24, false), (op == 31, false), (op == 4, false)] ⟨h24, h31, h4, trivial⟩ ?_
  refine Goes.val (do eqGuard .neq 9 (.tmp 52) (.const (strV [])) (strV t) (strV []); binOp .neq 9 (strV t) (strV [])) (.bool (!decide (t = []))) (fun w' _ _ => neE t w') ?_
  cases hs : decide (t = []) with
  | false =>
    refine Goes.run [1] [(true, true)] ⟨rfl, trivial⟩ ?_
    exact Goes.ret [] (.bool false) fun w' hm hI => ⟨by unfold fldP; rw [h4, h31, h24, hs] <;> rfl, bel0 hI⟩
  | true =>
  cases h1 : (op == 1) with
  | true =>
    have e : fldP op k t = inW k (-1000000000000000) 1000000000000000 := by unfold fldP; rw [h4, h31, h24, hs, h1] <;> rfl
    rw [e]
    cases hk : decide (-1000000000000000 ≤ k) with
    | true =>
      refine Goes.run [0, 0, 1, 0, 1, 0] [(decide (-1000000000000000 ≤ k), true), (op == 1, true), (false, false)] ⟨hk, h1, rfl, trivial⟩ ?_
      exact Goes.ret [] (.bool (decide (k ≤ 1000000000000000))) fun w' hm hI => ⟨by simp only [inW, hk, Bool.true_and], bel0 hI⟩
    | false =>
      refine Goes.run [0, 0, 1, 0, 0] [(decide (-1000000000000000 ≤ k), false), (op == 1, true), (false, false)] ⟨hk, h1, rfl, trivial⟩ ?_
      exact Goes.ret [] (.bool false) fun w' hm hI => ⟨by simp only [inW, hk, Bool.false_and], bel0 hI⟩
  | false =>
  cases h2 : (op == 2) with
  | true =>
    have e : fldP op k t = (k == 0 || k == 1) := by unfold fldP; rw [h4, h31, h24, hs, h1, h2] <;> rfl
    rw [e]
    cases hk : (k == 0) with
    | true =>
      refine Goes.run [0, 0, 0, 1, 0, 1] [(k == 0, true), (op == 2, true), (op == 1, false), (false, false)] ⟨hk, h2, h1, rfl, trivial⟩ ?_
      exact Goes.ret [] (.bool true) fun w' hm hI => ⟨by rw [Bool.true_or], bel0 hI⟩
    | false =>
      refine Goes.run [0, 0, 0, 1, 0, 0, 0] [(k == 0, false), (op == 2, true), (op == 1, false), (false, false)] ⟨hk, h2, h1, rfl, trivial⟩ ?_
      exact Goes.ret [] (.bool (k == 1)) fun w' hm hI => ⟨by rw [Bool.false_or], bel0 hI⟩
  | false =>
  cases h3 : (op == 3) with
  | true =>
    refine Goes.run [0, 0, 0, 0, 1, 1] [(op == 3, true), (op == 3, true), (op == 2, false), (op == 1, false), (false, false)] ⟨h3, h3, h2, h1, rfl, trivial⟩ ?_
    exact Goes.ret [] (.bool (inW k 0 73048)) fun w' hm hI => ⟨by unfold fldP; rw [h4, h31, h24, hs, h1, h2, h3] <;> rfl, bel0 hI⟩
  | false =>
  cases h29 : (op == 29) with
  | true =>
    refine Goes.run [0, 0, 0, 0, 0, 1, 1] [(op == 29, true), (op == 29, true), (op == 3, false), (op == 2, false), (op == 1, false), (false, false)] ⟨h29, h29, h3, h2, h1, rfl, trivial⟩ ?_
    exact Goes.ret [] (.bool (inW k 0 73048)) fun w' hm hI => ⟨by unfold fldP; rw [h4, h31, h24, hs, h1, h2, h3, h29] <;> rfl, bel0 hI⟩
  | false =>
  cases h30 : (op == 30) with
  | true =>
    refine Goes.run [0, 0, 0, 0, 0, 0, 1] [(op == 30, true), (op == 29, false), (op == 3, false), (op == 2, false), (op == 1, false), (false, false)] ⟨h30, h29, h3, h2, h1, rfl, trivial⟩ ?_
    exact Goes.ret [] (.bool (inW k 0 73048)) fun w' hm hI => ⟨by unfold fldP; rw [h4, h31, h24, hs, h1, h2, h3, h29, h30] <;> rfl, bel0 hI⟩
  | false =>
  cases h5 : (op == 5) with
  | true =>
    refine Goes.run [0, 0, 0, 0, 0, 0, 0, 1] [(op == 5, true), (op == 30, false), (op == 29, false), (op == 3, false), (op == 2, false), (op == 1, false), (false, false)] ⟨h5, h30, h29, h3, h2, h1, rfl, trivial⟩ ?_
    exact Goes.ret [] (.bool (inW k (-3660) 3660)) fun w' hm hI => ⟨by unfold fldP; rw [h4, h31, h24, hs, h1, h2, h3, h29, h30, h5] <;> rfl, bel0 hI⟩
  | false =>
    refine Goes.run [0, 0, 0, 0, 0, 0, 0, 0, 0] [(op == 5, false), (op == 30, false), (op == 29, false), (op == 3, false), (op == 2, false), (op == 1, false), (false, false)] ⟨h5, h30, h29, h3, h2, h1, rfl, trivial⟩ ?_
    exact Goes.ret [] (.bool (k == 0)) fun w' hm hI => ⟨by unfold fldP; rw [h4, h31, h24, hs, h1, h2, h3, h29, h30, h5] <;> rfl, bel0 hI⟩
/-- Both ask the same. -/
theorem fld_own (op k : Int) (t : List UInt8) : fldP op k t = ownC op k t := by
  unfold fldP ownC ownN ownS dateP lookP
  by_cases e4 : op = 4
  · subst e4; simp [Bool.and_comm]
  by_cases e31 : op = 31
  · subst e31; simp [Bool.and_comm]
  by_cases e24 : op = 24
  · subst e24; simp [Bool.and_comm]
  have h4 : (op == 4) = false := by simpa using e4
  have h31 : (op == 31) = false := by simpa using e31
  have h24 : (op == 24) = false := by simpa using e24
  simp only [h4, h31, h24, cond_false, Bool.or_false, Bool.false_or]
  cases hs : decide (t = []) with
  | false => simp
  | true =>
    simp only [Bool.not_true, cond_false, Bool.and_true]
    by_cases e2 : op = 2
    · subst e2
      have : (k == 0 || k == 1) = inW k 0 1 := by
        unfold inW
        rw [Bool.eq_iff_iff]
        simp only [Bool.or_eq_true, beq_iff_eq, Bool.and_eq_true, decide_eq_true_eq]
        omega
      simpa using this
    have h2 : (op == 2) = false := by simpa using e2
    simp only [h2, cond_false, Bool.or_assoc]
end Go.Proofs.YthnojedlndblbabGreatDoor
namespace Go.Proofs.YthnojedlndblbabGreatDoor
open Go Go.RowKit

/-- What is answered of an Op's kids, and of its own type. -/
def Kr3 (r : Option (List Int × Int)) (w : World) (e : Ending) (w' : World) : Prop := ∃ v, e = .returned (.tuple #[v, .int .i64 ((r.map (·.2)).getD 0), .bool r.isSome]) ∧ Below w.heap.size w w' ∧ KidsAt w w' v ((r.map (·.1)).getD [])
theorem Kr3.none {r : Option (List Int × Int)} {w w' : World} (h : r = .none) (hB : Below w.heap.size w w') : Kr3 r w (.returned (.tuple #[.slice .none 0 0, .int .i64 0, .bool false])) w' := by subst h; exact ⟨_, rfl, hB, .inl ⟨rfl, rfl⟩⟩
theorem Kr3.nil {r : Option (List Int × Int)} {w w' : World} (t : Int) (h : r = some ([], t)) (hB : Below w.heap.size w w') : Kr3 r w (.returned (.tuple #[.slice .none 0 0, .int .i64 t, .bool true])) w' := by subst h; exact ⟨_, rfl, hB, .inl ⟨rfl, rfl⟩⟩
theorem Kr3.some {r : Option (List Int × Int)} {w w' : World} {g : Nat} (ks : List Int) (t : Int) (h : r = .some (ks, t)) (hB : Below w.heap.size w w') (hg : w.heap.size ≤ g) (hb : w'.heap[g]? = .some (.cells (ks.map (Value.int .i64)).toArray 3 (0, 0))) (h0 : 0 < ks.length) (h3 : ks.length ≤ 3) : Kr3 r w (.returned (.tuple #[.slice (.some ⟨g, 0, .none⟩) ks.length ks.length, .int .i64 t, .bool true])) w' := by subst h; exact ⟨_, rfl, hB, .inr ⟨g, hg, rfl, hb, h0, h3⟩⟩

def rkP (op : Int) : Option (List Int × Int) :=
  bif op == 1 || op == 4 then some ([], 0) else bif op == 2 then some ([], 1) else bif op == 3 || op == 5 then some ([], 2) else bif op == 6 then some ([0], 0) else bif op == 7 || op == 8 || op == 9 || op == 10 then some ([0, 0], 0) else bif op == 11 || op == 12 || op == 13 then some ([0, 0], 1) else bif op == 14 then some ([1], 1) else bif op == 15 || op == 16 then some ([1, 1], 1) else bif op == 17 then some ([2, 2], 1) else bif op == 18 || op == 19 then some ([2, 0], 2) else bif op == 20 || op == 21 then some ([2, 2], 0) else bif op == 23 || op == 24 then some ([], 4) else bif op == 25 || op == 29 then some ([4], 4) else bif op == 26 then some ([0, 4], 4) else bif op == 27 || op == 31 then some ([4, 4], 4) else bif op == 28 then some ([1, 4, 4], 4) else bif op == 30 then some ([1, 4], 4) else none
set_option maxRecDepth 100000 in
seal rn rnN rnS Goes ans atEnd put0 putM opened putA0 oneSt st0 in
theorem rk_any (op : Int) (w : World) : Calls Tryz.prog 58 #[.int .i64 op] w (Kr3 (rkP op) w) := by
  refine Goes.begin Tryz.func58 [] (fun _ => True) Holds.nil (by simp [Mem.ids]) (fun _ _ => trivial) ?_
  cases h1 : (op == 1) with
  | true =>
    refine Goes.run [1, 1] [(op == 1, true), (op == 1, true)] ⟨h1, h1, trivial⟩ ?_
    exact Goes.ret [] (.tuple #[.slice none 0 0, .int .i64 0, .bool true]) fun w' hm hI => Kr3.nil 0 (by unfold rkP; rw [h1] <;> rfl) (bel0 hI)
  | false =>
  cases h4 : (op == 4) with
  | true =>
    refine Goes.run [0, 1] [(op == 4, true), (op == 1, false)] ⟨h4, h1, trivial⟩ ?_
    exact Goes.ret [] (.tuple #[.slice none 0 0, .int .i64 0, .bool true]) fun w' hm hI => Kr3.nil 0 (by unfold rkP; rw [h1, h4] <;> rfl) (bel0 hI)
  | false =>
  cases h2 : (op == 2) with
  | true =>
    refine Goes.run [0, 0, 1] [(op == 2, true), (op == 4, false), (op == 1, false)] ⟨h2, h4, h1, trivial⟩ ?_
    exact Goes.ret [] (.tuple #[.slice none 0 0, .int .i64 1, .bool true]) fun w' hm hI => Kr3.nil 1 (by unfold rkP; rw [h1, h4, h2] <;> rfl) (bel0 hI)
  | false =>
  cases h3 : (op == 3) with
  | true =>
    refine Goes.run [0, 0, 0, 1, 1] [(op == 3, true), (op == 3, true), (op == 2, false), (op == 4, false), (op == 1, false)] ⟨h3, h3, h2, h4, h1, trivial⟩ ?_
    exact Goes.ret [] (.tuple #[.slice none 0 0, .int .i64 2, .bool true]) fun w' hm hI => Kr3.nil 2 (by unfold rkP; rw [h1, h4, h2, h3] <;> rfl) (bel0 hI)
  | false =>
  cases h5 : (op == 5) with
  | true =>
    refine Goes.run [0, 0, 0, 0, 1] [(op == 5, true), (op == 3, false), (op == 2, false), (op == 4, false), (op == 1, false)] ⟨h5, h3, h2, h4, h1, trivial⟩ ?_
    exact Goes.ret [] (.tuple #[.slice none 0 0, .int .i64 2, .bool true]) fun w' hm hI => Kr3.nil 2 (by unfold rkP; rw [h1, h4, h2, h3, h5] <;> rfl) (bel0 hI)
  | false =>
  cases h6 : (op == 6) with
  | true =>
    refine Goes.run1 [0, 0, 0, 0, 0, 1] [(op == 6, true), (op == 5, false), (op == 3, false), (op == 2, false), (op == 4, false), (op == 1, false)] ⟨h6, h5, h3, h2, h4, h1, trivial⟩ fun g => ?_
    exact Goes.ret [] (.tuple #[.slice (some ⟨g, 0, none⟩) 1 1, .int .i64 0, .bool true]) fun w' hm hI => Kr3.some [0] 0 (by unfold rkP; rw [h1, h4, h2, h3, h5, h6] <;> rfl) (bel0 hI) (fresh_of hI (g := g) (ids_get (j := 0) (o := .cells ([0].map (Value.int .i64)).toArray 3 (0, 0)) (by kernel_rfl)) (by simp [Mem.ids])) (hm.get 0) (by simp) (by simp)
  | false =>
  cases h7 : (op == 7) with
  | true =>
    refine Goes.run1 [0, 0, 0, 0, 0, 0, 1, 1] [(op == 7, true), (op == 7, true), (op == 6, false), (op == 5, false), (op == 3, false), (op == 2, false), (op == 4, false), (op == 1, false)] ⟨h7, h7, h6, h5, h3, h2, h4, h1, trivial⟩ fun g => ?_
    exact Goes.ret [] (.tuple #[.slice (some ⟨g, 0, none⟩) 2 2, .int .i64 0, .bool true]) fun w' hm hI => Kr3.some [0, 0] 0 (by unfold rkP; rw [h1, h4, h2, h3, h5, h6, h7] <;> rfl) (bel0 hI) (fresh_of hI (g := g) (ids_get (j := 0) (o := .cells ([0, 0].map (Value.int .i64)).toArray 3 (0, 0)) (by kernel_rfl)) (by simp [Mem.ids])) (hm.get 0) (by simp) (by simp)
  | false =>
  cases h8 : (op == 8) with
  | true =>
    refine Goes.run1 [0, 0, 0, 0, 0, 0, 0, 1, 1] [(op == 8, true), (op == 8, true), (op == 7, false), (op == 6, false), (op == 5, false), (op == 3, false), (op == 2, false), (op == 4, false), (op == 1, false)] ⟨h8, h8, h7, h6, h5, h3, h2, h4, h1, trivial⟩ fun g => ?_
    exact Goes.ret [] (.tuple #[.slice (some ⟨g, 0, none⟩) 2 2, .int .i64 0, .bool true]) fun w' hm hI => Kr3.some [0, 0] 0 (by unfold rkP; rw [h1, h4, h2, h3, h5, h6, h7, h8] <;> rfl) (bel0 hI) (fresh_of hI (g := g) (ids_get (j := 0) (o := .cells ([0, 0].map (Value.int .i64)).toArray 3 (0, 0)) (by kernel_rfl)) (by simp [Mem.ids])) (hm.get 0) (by simp) (by simp)
  | false =>
  cases h9 : (op == 9) with
  | true =>
    refine Goes.run1 [0, 0, 0, 0, 0, 0, 0, 0, 1, 1] [(op == 9, true), (op == 9, true), (op == 8, false), (op == 7, false), (op == 6, false), (op == 5, false), (op == 3, false), (op == 2, false), (op == 4, false), (op == 1, false)] ⟨h9, h9, h8, h7, h6, h5, h3, h2, h4, h1, trivial⟩ fun g => ?_
    exact Goes.ret [] (.tuple #[.slice (some ⟨g, 0, none⟩) 2 2, .int .i64 0, .bool true]) fun w' hm hI => Kr3.some [0, 0] 0 (by unfold rkP; rw [h1, h4, h2, h3, h5, h6, h7, h8, h9] <;> rfl) (bel0 hI) (fresh_of hI (g := g) (ids_get (j := 0) (o := .cells ([0, 0].map (Value.int .i64)).toArray 3 (0, 0)) (by kernel_rfl)) (by simp [Mem.ids])) (hm.get 0) (by simp) (by simp)
  | false =>
  cases h10 : (op == 10) with
  | true =>
    refine Goes.run1 [0, 0, 0, 0, 0, 0, 0, 0, 0, 1] [(op == 10, true), (op == 9, false), (op == 8, false), (op == 7, false), (op == 6, false), (op == 5, false), (op == 3, false), (op == 2, false), (op == 4, false), (op == 1, false)] ⟨h10, h9, h8, h7, h6, h5, h3, h2, h4, h1, trivial⟩ fun g => ?_
    exact Goes.ret [] (.tuple #[.slice (some ⟨g, 0, none⟩) 2 2, .int .i64 0, .bool true]) fun w' hm hI => Kr3.some [0, 0] 0 (by unfold rkP; rw [h1, h4, h2, h3, h5, h6, h7, h8, h9, h10] <;> rfl) (bel0 hI) (fresh_of hI (g := g) (ids_get (j := 0) (o := .cells ([0, 0].map (Value.int .i64)).toArray 3 (0, 0)) (by kernel_rfl)) (by simp [Mem.ids])) (hm.get 0) (by simp) (by simp)
  | false =>
  cases h11 : (op == 11) with
  | true =>
    refine Goes.run1 [0, 0, 0, 0, 0, 0, 0, 0, 0, 0, 1, 1] [(op == 11, true), (op == 11, true), (op == 10, false), (op == 9, false), (op == 8, false), (op == 7, false), (op == 6, false), (op == 5, false), (op == 3, false), (op == 2, false), (op == 4, false), (op == 1, false)] ⟨h11, h11, h10, h9, h8, h7, h6, h5, h3, h2, h4, h1, trivial⟩ fun g => ?_
    exact Goes.ret [] (.tuple #[.slice (some ⟨g, 0, none⟩) 2 2, .int .i64 1, .bool true]) fun w' hm hI => Kr3.some [0, 0] 1 (by unfold rkP; rw [h1, h4, h2, h3, h5, h6, h7, h8, h9, h10, h11] <;> rfl) (bel0 hI) (fresh_of hI (g := g) (ids_get (j := 0) (o := .cells ([0, 0].map (Value.int .i64)).toArray 3 (0, 0)) (by kernel_rfl)) (by simp [Mem.ids])) (hm.get 0) (by simp) (by simp)
  | false =>
  cases h12 : (op == 12) with
  | true =>
    refine Goes.run1 [0, 0, 0, 0, 0, 0, 0, 0, 0, 0, 0, 1, 1] [(op == 12, true), (op == 12, true), (op == 11, false), (op == 10, false), (op == 9, false), (op == 8, false), (op == 7, false), (op == 6, false), (op == 5, false), (op == 3, false), (op == 2, false), (op == 4, false), (op == 1, false)] ⟨h12, h12, h11, h10, h9, h8, h7, h6, h5, h3, h2, h4, h1, trivial⟩ fun g => ?_
    exact Goes.ret [] (.tuple #[.slice (some ⟨g, 0, none⟩) 2 2, .int .i64 1, .bool true]) fun w' hm hI => Kr3.some [0, 0] 1 (by unfold rkP; rw [h1, h4, h2, h3, h5, h6, h7, h8, h9, h10, h11, h12] <;> rfl) (bel0 hI) (fresh_of hI (g := g) (ids_get (j := 0) (o := .cells ([0, 0].map (Value.int .i64)).toArray 3 (0, 0)) (by kernel_rfl)) (by simp [Mem.ids])) (hm.get 0) (by simp) (by simp)
  | false =>
  cases h13 : (op == 13) with
  | true =>
    refine Goes.run1 [0, 0, 0, 0, 0, 0, 0, 0, 0, 0, 0, 0, 1] [(op == 13, true), (op == 12, false), (op == 11, false), (op == 10, false), (op == 9, false), (op == 8, false), (op == 7, false), (op == 6, false), (op == 5, false), (op == 3, false), (op == 2, false), (op == 4, false), (op == 1, false)] ⟨h13, h12, h11, h10, h9, h8, h7, h6, h5, h3, h2, h4, h1, trivial⟩ fun g => ?_
    exact Goes.ret [] (.tuple #[.slice (some ⟨g, 0, none⟩) 2 2, .int .i64 1, .bool true]) fun w' hm hI => Kr3.some [0, 0] 1 (by unfold rkP; rw [h1, h4, h2, h3, h5, h6, h7, h8, h9, h10, h11, h12, h13] <;> rfl) (bel0 hI) (fresh_of hI (g := g) (ids_get (j := 0) (o := .cells ([0, 0].map (Value.int .i64)).toArray 3 (0, 0)) (by kernel_rfl)) (by simp [Mem.ids])) (hm.get 0) (by simp) (by simp)
  | false =>
  cases h14 : (op == 14) with
  | true =>
    refine Goes.run1 [0, 0, 0, 0, 0, 0, 0, 0, 0, 0, 0, 0, 0, 1] [(op == 14, true), (op == 13, false), (op == 12, false), (op == 11, false), (op == 10, false), (op == 9, false), (op == 8, false), (op == 7, false), (op == 6, false), (op == 5, false), (op == 3, false), (op == 2, false), (op == 4, false), (op == 1, false)] ⟨h14, h13, h12, h11, h10, h9, h8, h7, h6, h5, h3, h2, h4, h1, trivial⟩ fun g => ?_
    exact Goes.ret [] (.tuple #[.slice (some ⟨g, 0, none⟩) 1 1, .int .i64 1, .bool true]) fun w' hm hI => Kr3.some [1] 1 (by unfold rkP; rw [h1, h4, h2, h3, h5, h6, h7, h8, h9, h10, h11, h12, h13, h14] <;> rfl) (bel0 hI) (fresh_of hI (g := g) (ids_get (j := 0) (o := .cells ([1].map (Value.int .i64)).toArray 3 (0, 0)) (by kernel_rfl)) (by simp [Mem.ids])) (hm.get 0) (by simp) (by simp)
  | false =>
  cases h15 : (op == 15) with
  | true =>
    refine Goes.run1 [0, 0, 0, 0, 0, 0, 0, 0, 0, 0, 0, 0, 0, 0, 1, 1] [(op == 15, true), (op == 15, true), (op == 14, false), (op == 13, false), (op == 12, false), (op == 11, false), (op == 10, false), (op == 9, false), (op == 8, false), (op == 7, false), (op == 6, false), (op == 5, false), (op == 3, false), (op == 2, false), (op == 4, false), (op == 1, false)] ⟨h15, h15, h14, h13, h12, h11, h10, h9, h8, h7, h6, h5, h3, h2, h4, h1, trivial⟩ fun g => ?_
    exact Goes.ret [] (.tuple #[.slice (some ⟨g, 0, none⟩) 2 2, .int .i64 1, .bool true]) fun w' hm hI => Kr3.some [1, 1] 1 (by unfold rkP; rw [h1, h4, h2, h3, h5, h6, h7, h8, h9, h10, h11, h12, h13, h14, h15] <;> rfl) (bel0 hI) (fresh_of hI (g := g) (ids_get (j := 0) (o := .cells ([1, 1].map (Value.int .i64)).toArray 3 (0, 0)) (by kernel_rfl)) (by simp [Mem.ids])) (hm.get 0) (by simp) (by simp)
  | false =>
  cases h16 : (op == 16) with
  | true =>
    refine Goes.run1 [0, 0, 0, 0, 0, 0, 0, 0, 0, 0, 0, 0, 0, 0, 0, 1] [(op == 16, true), (op == 15, false), (op == 14, false), (op == 13, false), (op == 12, false), (op == 11, false), (op == 10, false), (op == 9, false), (op == 8, false), (op == 7, false), (op == 6, false), (op == 5, false), (op == 3, false), (op == 2, false), (op == 4, false), (op == 1, false)] ⟨h16, h15, h14, h13, h12, h11, h10, h9, h8, h7, h6, h5, h3, h2, h4, h1, trivial⟩ fun g => ?_
    exact Goes.ret [] (.tuple #[.slice (some ⟨g, 0, none⟩) 2 2, .int .i64 1, .bool true]) fun w' hm hI => Kr3.some [1, 1] 1 (by unfold rkP; rw [h1, h4, h2, h3, h5, h6, h7, h8, h9, h10, h11, h12, h13, h14, h15, h16] <;> rfl) (bel0 hI) (fresh_of hI (g := g) (ids_get (j := 0) (o := .cells ([1, 1].map (Value.int .i64)).toArray 3 (0, 0)) (by kernel_rfl)) (by simp [Mem.ids])) (hm.get 0) (by simp) (by simp)
  | false =>
  cases h17 : (op == 17) with
  | true =>
    refine Goes.run1 [0, 0, 0, 0, 0, 0, 0, 0, 0, 0, 0, 0, 0, 0, 0, 0, 1] [(op == 17, true), (op == 16, false), (op == 15, false), (op == 14, false), (op == 13, false), (op == 12, false), (op == 11, false), (op == 10, false), (op == 9, false), (op == 8, false), (op == 7, false), (op == 6, false), (op == 5, false), (op == 3, false), (op == 2, false), (op == 4, false), (op == 1, false)] ⟨h17, h16, h15, h14, h13, h12, h11, h10, h9, h8, h7, h6, h5, h3, h2, h4, h1, trivial⟩ fun g => ?_
    exact Goes.ret [] (.tuple #[.slice (some ⟨g, 0, none⟩) 2 2, .int .i64 1, .bool true]) fun w' hm hI => Kr3.some [2, 2] 1 (by unfold rkP; rw [h1, h4, h2, h3, h5, h6, h7, h8, h9, h10, h11, h12, h13, h14, h15, h16, h17] <;> rfl) (bel0 hI) (fresh_of hI (g := g) (ids_get (j := 0) (o := .cells ([2, 2].map (Value.int .i64)).toArray 3 (0, 0)) (by kernel_rfl)) (by simp [Mem.ids])) (hm.get 0) (by simp) (by simp)
  | false =>
  cases h18 : (op == 18) with
  | true =>
    refine Goes.run1 [0, 0, 0, 0, 0, 0, 0, 0, 0, 0, 0, 0, 0, 0, 0, 0, 0, 1, 1] [(op == 18, true), (op == 18, true), (op == 17, false), (op == 16, false), (op == 15, false), (op == 14, false), (op == 13, false), (op == 12, false), (op == 11, false), (op == 10, false), (op == 9, false), (op == 8, false), (op == 7, false), (op == 6, false), (op == 5, false), (op == 3, false), (op == 2, false), (op == 4, false), (op == 1, false)] ⟨h18, h18, h17, h16, h15, h14, h13, h12, h11, h10, h9, h8, h7, h6, h5, h3, h2, h4, h1, trivial⟩ fun g => ?_
    exact Goes.ret [] (.tuple #[.slice (some ⟨g, 0, none⟩) 2 2, .int .i64 2, .bool true]) fun w' hm hI => Kr3.some [2, 0] 2 (by unfold rkP; rw [h1, h4, h2, h3, h5, h6, h7, h8, h9, h10, h11, h12, h13, h14, h15, h16, h17, h18] <;> rfl) (bel0 hI) (fresh_of hI (g := g) (ids_get (j := 0) (o := .cells ([2, 0].map (Value.int .i64)).toArray 3 (0, 0)) (by kernel_rfl)) (by simp [Mem.ids])) (hm.get 0) (by simp) (by simp)
  | false =>
  cases h19 : (op == 19) with
  | true =>
    refine Goes.run1 [0, 0, 0, 0, 0, 0, 0, 0, 0, 0, 0, 0, 0, 0, 0, 0, 0, 0, 1] [(op == 19, true), (op == 18, false), (op == 17, false), (op == 16, false), (op == 15, false), (op == 14, false), (op == 13, false), (op == 12, false), (op == 11, false), (op == 10, false), (op == 9, false), (op == 8, false), (op == 7, false), (op == 6, false), (op == 5, false), (op == 3, false), (op == 2, false), (op == 4, false), (op == 1, false)] ⟨h19, h18, h17, h16, h15, h14, h13, h12, h11, h10, h9, h8, h7, h6, h5, h3, h2, h4, h1, trivial⟩ fun g => ?_
    exact Goes.ret [] (.tuple #[.slice (some ⟨g, 0, none⟩) 2 2, .int .i64 2, .bool true]) fun w' hm hI => Kr3.some [2, 0] 2 (by unfold rkP; rw [h1, h4, h2, h3, h5, h6, h7, h8, h9, h10, h11, h12, h13, h14, h15, h16, h17, h18, h19] <;> rfl) (bel0 hI) (fresh_of hI (g := g) (ids_get (j := 0) (o := .cells ([2, 0].map (Value.int .i64)).toArray 3 (0, 0)) (by kernel_rfl)) (by simp [Mem.ids])) (hm.get 0) (by simp) (by simp)
  | false =>
  cases h20 : (op == 20) with
  | true =>
    refine Goes.run1 [0, 0, 0, 0, 0, 0, 0, 0, 0, 0, 0, 0, 0, 0, 0, 0, 0, 0, 0, 1, 1] [(op == 20, true), (op == 20, true), (op == 19, false), (op == 18, false), (op == 17, false), (op == 16, false), (op == 15, false), (op == 14, false), (op == 13, false), (op == 12, false), (op == 11, false), (op == 10, false), (op == 9, false), (op == 8, false), (op == 7, false), (op == 6, false), (op == 5, false), (op == 3, false), (op == 2, false), (op == 4, false), (op == 1, false)] ⟨h20, h20, h19, h18, h17, h16, h15, h14, h13, h12, h11, h10, h9, h8, h7, h6, h5, h3, h2, h4, h1, trivial⟩ fun g => ?_
    exact Goes.ret [] (.tuple #[.slice (some ⟨g, 0, none⟩) 2 2, .int .i64 0, .bool true]) fun w' hm hI => Kr3.some [2, 2] 0 (by unfold rkP; rw [h1, h4, h2, h3, h5, h6, h7, h8, h9, h10, h11, h12, h13, h14, h15, h16, h17, h18, h19, h20] <;> rfl) (bel0 hI) (fresh_of hI (g := g) (ids_get (j := 0) (o := .cells ([2, 2].map (Value.int .i64)).toArray 3 (0, 0)) (by kernel_rfl)) (by simp [Mem.ids])) (hm.get 0) (by simp) (by simp)
  | false =>
  cases h21 : (op == 21) with
  | true =>
    refine Goes.run1 [0, 0, 0, 0, 0, 0, 0, 0, 0, 0, 0, 0, 0, 0, 0, 0, 0, 0, 0, 0, 1] [(op == 21, true), (op == 20, false), (op == 19, false), (op == 18, false), (op == 17, false), (op == 16, false), (op == 15, false), (op == 14, false), (op == 13, false), (op == 12, false), (op == 11, false), (op == 10, false), (op == 9, false), (op == 8, false), (op == 7, false), (op == 6, false), (op == 5, false), (op == 3, false), (op == 2, false), (op == 4, false), (op == 1, false)] ⟨h21, h20, h19, h18, h17, h16, h15, h14, h13, h12, h11, h10, h9, h8, h7, h6, h5, h3, h2, h4, h1, trivial⟩ fun g => ?_
    exact Goes.ret [] (.tuple #[.slice (some ⟨g, 0, none⟩) 2 2, .int .i64 0, .bool true]) fun w' hm hI => Kr3.some [2, 2] 0 (by unfold rkP; rw [h1, h4, h2, h3, h5, h6, h7, h8, h9, h10, h11, h12, h13, h14, h15, h16, h17, h18, h19, h20, h21] <;> rfl) (bel0 hI) (fresh_of hI (g := g) (ids_get (j := 0) (o := .cells ([2, 2].map (Value.int .i64)).toArray 3 (0, 0)) (by kernel_rfl)) (by simp [Mem.ids])) (hm.get 0) (by simp) (by simp)
  | false =>
  cases h23 : (op == 23) with
  | true =>
    refine Goes.run [0, 0, 0, 0, 0, 0, 0, 0, 0, 0, 0, 0, 0, 0, 0, 0, 0, 0, 0, 0, 0, 1, 1] [(op == 23, true), (op == 23, true), (op == 21, false), (op == 20, false), (op == 19, false), (op == 18, false), (op == 17, false), (op == 16, false), (op == 15, false), (op == 14, false), (op == 13, false), (op == 12, false), (op == 11, false), (op == 10, false), (op == 9, false), (op == 8, false), (op == 7, false), (op == 6, false), (op == 5, false), (op == 3, false), (op == 2, false), (op == 4, false), (op == 1, false)] ⟨h23, h23, h21, h20, h19, h18, h17, h16, h15, h14, h13, h12, h11, h10, h9, h8, h7, h6, h5, h3, h2, h4, h1, trivial⟩ ?_
    exact Goes.ret [] (.tuple #[.slice none 0 0, .int .i64 4, .bool true]) fun w' hm hI => Kr3.nil 4 (by unfold rkP; rw [h1, h4, h2, h3, h5, h6, h7, h8, h9, h10, h11, h12, h13, h14, h15, h16, h17, h18, h19, h20, h21, h23] <;> rfl) (bel0 hI)
  | false =>
  cases h24 : (op == 24) with
  | true =>
    refine Goes.run [0, 0, 0, 0, 0, 0, 0, 0, 0, 0, 0, 0, 0, 0, 0, 0, 0, 0, 0, 0, 0, 0, 1] [(op == 24, true), (op == 23, false), (op == 21, false), (op == 20, false), (op == 19, false), (op == 18, false), (op == 17, false), (op == 16, false), (op == 15, false), (op == 14, false), (op == 13, false), (op == 12, false), (op == 11, false), (op == 10, false), (op == 9, false), (op == 8, false), (op == 7, false), (op == 6, false), (op == 5, false), (op == 3, false), (op == 2, false), (op == 4, false), (op == 1, false)] ⟨h24, h23, h21, h20, h19, h18, h17, h16, h15, h14, h13, h12, h11, h10, h9, h8, h7, h6, h5, h3, h2, h4, h1, trivial⟩ ?_
    exact Goes.ret [] (.tuple #[.slice none 0 0, .int .i64 4, .bool true]) fun w' hm hI => Kr3.nil 4 (by unfold rkP; rw [h1, h4, h2, h3, h5, h6, h7, h8, h9, h10, h11, h12, h13, h14, h15, h16, h17, h18, h19, h20, h21, h23, h24] <;> rfl) (bel0 hI)
  | false =>
  cases h25 : (op == 25) with
  | true =>
    refine Goes.run1 [0, 0, 0, 0, 0, 0, 0, 0, 0, 0, 0, 0, 0, 0, 0, 0, 0, 0, 0, 0, 0, 0, 0, 1, 1] [(op == 25, true), (op == 25, true), (op == 24, false), (op == 23, false), (op == 21, false), (op == 20, false), (op == 19, false), (op == 18, false), (op == 17, false), (op == 16, false), (op == 15, false), (op == 14, false), (op == 13, false), (op == 12, false), (op == 11, false), (op == 10, false), (op == 9, false), (op == 8, false), (op == 7, false), (op == 6, false), (op == 5, false), (op == 3, false), (op == 2, false), (op == 4, false), (op == 1, false)] ⟨h25, h25, h24, h23, h21, h20, h19, h18, h17, h16, h15, h14, h13, h12, h11, h10, h9, h8, h7, h6, h5, h3, h2, h4, h1, trivial⟩ fun g => ?_
    exact Goes.ret [] (.tuple #[.slice (some ⟨g, 0, none⟩) 1 1, .int .i64 4, .bool true]) fun w' hm hI => Kr3.some [4] 4 (by unfold rkP; rw [h1, h4, h2, h3, h5, h6, h7, h8, h9, h10, h11, h12, h13, h14, h15, h16, h17, h18, h19, h20, h21, h23, h24, h25] <;> rfl) (bel0 hI) (fresh_of hI (g := g) (ids_get (j := 0) (o := .cells ([4].map (Value.int .i64)).toArray 3 (0, 0)) (by kernel_rfl)) (by simp [Mem.ids])) (hm.get 0) (by simp) (by simp)
  | false =>
  cases h29 : (op == 29) with
  | true =>
    refine Goes.run1 [0, 0, 0, 0, 0, 0, 0, 0, 0, 0, 0, 0, 0, 0, 0, 0, 0, 0, 0, 0, 0, 0, 0, 0, 1] [(op == 29, true), (op == 25, false), (op == 24, false), (op == 23, false), (op == 21, false), (op == 20, false), (op == 19, false), (op == 18, false), (op == 17, false), (op == 16, false), (op == 15, false), (op == 14, false), (op == 13, false), (op == 12, false), (op == 11, false), (op == 10, false), (op == 9, false), (op == 8, false), (op == 7, false), (op == 6, false), (op == 5, false), (op == 3, false), (op == 2, false), (op == 4, false), (op == 1, false)] ⟨h29, h25, h24, h23, h21, h20, h19, h18, h17, h16, h15, h14, h13, h12, h11, h10, h9, h8, h7, h6, h5, h3, h2, h4, h1, trivial⟩ fun g => ?_
    exact Goes.ret [] (.tuple #[.slice (some ⟨g, 0, none⟩) 1 1, .int .i64 4, .bool true]) fun w' hm hI => Kr3.some [4] 4 (by unfold rkP; rw [h1, h4, h2, h3, h5, h6, h7, h8, h9, h10, h11, h12, h13, h14, h15, h16, h17, h18, h19, h20, h21, h23, h24, h25, h29] <;> rfl) (bel0 hI) (fresh_of hI (g := g) (ids_get (j := 0) (o := .cells ([4].map (Value.int .i64)).toArray 3 (0, 0)) (by kernel_rfl)) (by simp [Mem.ids])) (hm.get 0) (by simp) (by simp)
  | false =>
  cases h26 : (op == 26) with
  | true =>
    refine Goes.run1 [0, 0, 0, 0, 0, 0, 0, 0, 0, 0, 0, 0, 0, 0, 0, 0, 0, 0, 0, 0, 0, 0, 0, 0, 0, 1] [(op == 26, true), (op == 29, false), (op == 25, false), (op == 24, false), (op == 23, false), (op == 21, false), (op == 20, false), (op == 19, false), (op == 18, false), (op == 17, false), (op == 16, false), (op == 15, false), (op == 14, false), (op == 13, false), (op == 12, false), (op == 11, false), (op == 10, false), (op == 9, false), (op == 8, false), (op == 7, false), (op == 6, false), (op == 5, false), (op == 3, false), (op == 2, false), (op == 4, false), (op == 1, false)] ⟨h26, h29, h25, h24, h23, h21, h20, h19, h18, h17, h16, h15, h14, h13, h12, h11, h10, h9, h8, h7, h6, h5, h3, h2, h4, h1, trivial⟩ fun g => ?_
    exact Goes.ret [] (.tuple #[.slice (some ⟨g, 0, none⟩) 2 2, .int .i64 4, .bool true]) fun w' hm hI => Kr3.some [0, 4] 4 (by unfold rkP; rw [h1, h4, h2, h3, h5, h6, h7, h8, h9, h10, h11, h12, h13, h14, h15, h16, h17, h18, h19, h20, h21, h23, h24, h25, h29, h26] <;> rfl) (bel0 hI) (fresh_of hI (g := g) (ids_get (j := 0) (o := .cells ([0, 4].map (Value.int .i64)).toArray 3 (0, 0)) (by kernel_rfl)) (by simp [Mem.ids])) (hm.get 0) (by simp) (by simp)
  | false =>
  cases h27 : (op == 27) with
  | true =>
    refine Goes.run1 [0, 0, 0, 0, 0, 0, 0, 0, 0, 0, 0, 0, 0, 0, 0, 0, 0, 0, 0, 0, 0, 0, 0, 0, 0, 0, 1, 1] [(op == 27, true), (op == 27, true), (op == 26, false), (op == 29, false), (op == 25, false), (op == 24, false), (op == 23, false), (op == 21, false), (op == 20, false), (op == 19, false), (op == 18, false), (op == 17, false), (op == 16, false), (op == 15, false), (op == 14, false), (op == 13, false), (op == 12, false), (op == 11, false), (op == 10, false), (op == 9, false), (op == 8, false), (op == 7, false), (op == 6, false), (op == 5, false), (op == 3, false), (op == 2, false), (op == 4, false), (op == 1, false)] ⟨h27, h27, h26, h29, h25, h24, h23, h21, h20, h19, h18, h17, h16, h15, h14, h13, h12, h11, h10, h9, h8, h7, h6, h5, h3, h2, h4, h1, trivial⟩ fun g => ?_
    exact Goes.ret [] (.tuple #[.slice (some ⟨g, 0, none⟩) 2 2, .int .i64 4, .bool true]) fun w' hm hI => Kr3.some [4, 4] 4 (by unfold rkP; rw [h1, h4, h2, h3, h5, h6, h7, h8, h9, h10, h11, h12, h13, h14, h15, h16, h17, h18, h19, h20, h21, h23, h24, h25, h29, h26, h27] <;> rfl) (bel0 hI) (fresh_of hI (g := g) (ids_get (j := 0) (o := .cells ([4, 4].map (Value.int .i64)).toArray 3 (0, 0)) (by kernel_rfl)) (by simp [Mem.ids])) (hm.get 0) (by simp) (by simp)
  | false =>
  cases h31 : (op == 31) with
  | true =>
    refine Goes.run1 [0, 0, 0, 0, 0, 0, 0, 0, 0, 0, 0, 0, 0, 0, 0, 0, 0, 0, 0, 0, 0, 0, 0, 0, 0, 0, 0, 1] [(op == 31, true), (op == 27, false), (op == 26, false), (op == 29, false), (op == 25, false), (op == 24, false), (op == 23, false), (op == 21, false), (op == 20, false), (op == 19, false), (op == 18, false), (op == 17, false), (op == 16, false), (op == 15, false), (op == 14, false), (op == 13, false), (op == 12, false), (op == 11, false), (op == 10, false), (op == 9, false), (op == 8, false), (op == 7, false), (op == 6, false), (op == 5, false), (op == 3, false), (op == 2, false), (op == 4, false), (op == 1, false)] ⟨h31, h27, h26, h29, h25, h24, h23, h21, h20, h19, h18, h17, h16, h15, h14, h13, h12, h11, h10, h9, h8, h7, h6, h5, h3, h2, h4, h1, trivial⟩ fun g => ?_
    exact Goes.ret [] (.tuple #[.slice (some ⟨g, 0, none⟩) 2 2, .int .i64 4, .bool true]) fun w' hm hI => Kr3.some [4, 4] 4 (by unfold rkP; rw [h1, h4, h2, h3, h5, h6, h7, h8, h9, h10, h11, h12, h13, h14, h15, h16, h17, h18, h19, h20, h21, h23, h24, h25, h29, h26, h27, h31] <;> rfl) (bel0 hI) (fresh_of hI (g := g) (ids_get (j := 0) (o := .cells ([4, 4].map (Value.int .i64)).toArray 3 (0, 0)) (by kernel_rfl)) (by simp [Mem.ids])) (hm.get 0) (by simp) (by simp)
  | false =>
  cases h28 : (op == 28) with
  | true =>
    refine Goes.run1 [0, 0, 0, 0, 0, 0, 0, 0, 0, 0, 0, 0, 0, 0, 0, 0, 0, 0, 0, 0, 0, 0, 0, 0, 0, 0, 0, 0, 1] [(op == 28, true), (op == 31, false), (op == 27, false), (op == 26, false), (op == 29, false), (op == 25, false), (op == 24, false), (op == 23, false), (op == 21, false), (op == 20, false), (op == 19, false), (op == 18, false), (op == 17, false), (op == 16, false), (op == 15, false), (op == 14, false), (op == 13, false), (op == 12, false), (op == 11, false), (op == 10, false), (op == 9, false), (op == 8, false), (op == 7, false), (op == 6, false), (op == 5, false), (op == 3, false), (op == 2, false), (op == 4, false), (op == 1, false)] ⟨h28, h31, h27, h26, h29, h25, h24, h23, h21, h20, h19, h18, h17, h16, h15, h14, h13, h12, h11, h10, h9, h8, h7, h6, h5, h3, h2, h4, h1, trivial⟩ fun g => ?_
    exact Goes.ret [] (.tuple #[.slice (some ⟨g, 0, none⟩) 3 3, .int .i64 4, .bool true]) fun w' hm hI => Kr3.some [1, 4, 4] 4 (by unfold rkP; rw [h1, h4, h2, h3, h5, h6, h7, h8, h9, h10, h11, h12, h13, h14, h15, h16, h17, h18, h19, h20, h21, h23, h24, h25, h29, h26, h27, h31, h28] <;> rfl) (bel0 hI) (fresh_of hI (g := g) (ids_get (j := 0) (o := .cells ([1, 4, 4].map (Value.int .i64)).toArray 3 (0, 0)) (by kernel_rfl)) (by simp [Mem.ids])) (hm.get 0) (by simp) (by simp)
  | false =>
  cases h30 : (op == 30) with
  | true =>
    refine Goes.run1 [0, 0, 0, 0, 0, 0, 0, 0, 0, 0, 0, 0, 0, 0, 0, 0, 0, 0, 0, 0, 0, 0, 0, 0, 0, 0, 0, 0, 0, 1] [(op == 30, true), (op == 28, false), (op == 31, false), (op == 27, false), (op == 26, false), (op == 29, false), (op == 25, false), (op == 24, false), (op == 23, false), (op == 21, false), (op == 20, false), (op == 19, false), (op == 18, false), (op == 17, false), (op == 16, false), (op == 15, false), (op == 14, false), (op == 13, false), (op == 12, false), (op == 11, false), (op == 10, false), (op == 9, false), (op == 8, false), (op == 7, false), (op == 6, false), (op == 5, false), (op == 3, false), (op == 2, false), (op == 4, false), (op == 1, false)] ⟨h30, h28, h31, h27, h26, h29, h25, h24, h23, h21, h20, h19, h18, h17, h16, h15, h14, h13, h12, h11, h10, h9, h8, h7, h6, h5, h3, h2, h4, h1, trivial⟩ fun g => ?_
    exact Goes.ret [] (.tuple #[.slice (some ⟨g, 0, none⟩) 2 2, .int .i64 4, .bool true]) fun w' hm hI => Kr3.some [1, 4] 4 (by unfold rkP; rw [h1, h4, h2, h3, h5, h6, h7, h8, h9, h10, h11, h12, h13, h14, h15, h16, h17, h18, h19, h20, h21, h23, h24, h25, h29, h26, h27, h31, h28, h30] <;> rfl) (bel0 hI) (fresh_of hI (g := g) (ids_get (j := 0) (o := .cells ([1, 4].map (Value.int .i64)).toArray 3 (0, 0)) (by kernel_rfl)) (by simp [Mem.ids])) (hm.get 0) (by simp) (by simp)
  | false =>
    refine Goes.run [0, 0, 0, 0, 0, 0, 0, 0, 0, 0, 0, 0, 0, 0, 0, 0, 0, 0, 0, 0, 0, 0, 0, 0, 0, 0, 0, 0, 0, 0] [(op == 30, false), (op == 28, false), (op == 31, false), (op == 27, false), (op == 26, false), (op == 29, false), (op == 25, false), (op == 24, false), (op == 23, false), (op == 21, false), (op == 20, false), (op == 19, false), (op == 18, false), (op == 17, false), (op == 16, false), (op == 15, false), (op == 14, false), (op == 13, false), (op == 12, false), (op == 11, false), (op == 10, false), (op == 9, false), (op == 8, false), (op == 7, false), (op == 6, false), (op == 5, false), (op == 3, false), (op == 2, false), (op == 4, false), (op == 1, false)] ⟨h30, h28, h31, h27, h26, h29, h25, h24, h23, h21, h20, h19, h18, h17, h16, h15, h14, h13, h12, h11, h10, h9, h8, h7, h6, h5, h3, h2, h4, h1, trivial⟩ ?_
    exact Goes.ret [] (.tuple #[.slice none 0 0, .int .i64 0, .bool false]) fun w' hm hI => Kr3.none (by unfold rkP; rw [h1, h4, h2, h3, h5, h6, h7, h8, h9, h10, h11, h12, h13, h14, h15, h16, h17, h18, h19, h20, h21, h23, h24, h25, h29, h26, h27, h31, h28, h30] <;> rfl) (bel0 hI)
end Go.Proofs.YthnojedlndblbabGreatDoor
namespace Go.Proofs.YthnojedlndblbabGreatDoor
open Go Go.RowKit

def lastZ : List Int → Int
  | [] => 0
  | [x] => x
  | _ :: r => lastZ r
/-- A row of numbers in a block: what lies behind it there is no matter. -/
def zO (l : List Int) (r : List Value) : Obj := .cells (l.map (Value.int .i64) ++ r).toArray 3 (0, 0)
set_option maxRecDepth 100000 in
seal rn rnS Goes ans atEnd put0 putM opened putA0 oneSt st0 in
theorem last_any (b cap : Nat) (l : List Int) (r : List Value) (h3 : l.length ≤ 3) (h0 : l ≠ []) (w : World) (hb : w.heap[b]? = some (zO l r)) : Calls Tryz.prog 57 #[.slice (some ⟨b, 0, none⟩) l.length cap] w fun e w' => e = .returned (.int .i64 (lastZ l)) ∧ Below w.heap.size w w' := by
  match l, h0, h3 with
  | [x], _, _ =>
    refine Goes.begin Tryz.func57 [(b, zO [x] r)] (fun _ => True) (fun j b o h => by match j, h with | 0, h => (cases h; exact hb)) (by simp [Mem.ids]) (fun _ _ => trivial) ?_
    refine Goes.run [0, 0, 0] [(false, false)] ⟨rfl, trivial⟩ ?_
    exact Goes.ret [] (.int .i64 x) fun w' hm hI => ⟨rfl, below_end (m := [(b, zO [x] r)]) (fun j b o h => by match j, h with | 0, h => (cases h; exact hb)) hI.now.1 hm (by kernel_rfl)⟩
  | [x, y], _, _ =>
    refine Goes.begin Tryz.func57 [(b, zO [x, y] r)] (fun _ => True) (fun j b o h => by match j, h with | 0, h => (cases h; exact hb)) (by simp [Mem.ids]) (fun _ _ => trivial) ?_
    refine Goes.run [0, 0, 0] [(false, false)] ⟨rfl, trivial⟩ ?_
    exact Goes.ret [] (.int .i64 y) fun w' hm hI => ⟨rfl, below_end (m := [(b, zO [x, y] r)]) (fun j b o h => by match j, h with | 0, h => (cases h; exact hb)) hI.now.1 hm (by kernel_rfl)⟩
  | [x, y, z], _, _ =>
    refine Goes.begin Tryz.func57 [(b, zO [x, y, z] r)] (fun _ => True) (fun j b o h => by match j, h with | 0, h => (cases h; exact hb)) (by simp [Mem.ids]) (fun _ _ => trivial) ?_
    refine Goes.run [0, 0, 0] [(false, false)] ⟨rfl, trivial⟩ ?_
    exact Goes.ret [] (.int .i64 z) fun w' hm hI => ⟨rfl, below_end (m := [(b, zO [x, y, z] r)]) (fun j b o h => by match j, h with | 0, h => (cases h; exact hb)) hI.now.1 hm (by kernel_rfl)⟩
set_option maxRecDepth 100000 in
seal rn rnS Goes ans atEnd put0 putM opened putA0 oneSt st0 in
theorem last_nil (a : Option Addr) (c : Nat) (w : World) : Calls Tryz.prog 57 #[.slice a 0 c] w fun e w' => e = .returned (.int .i64 0) ∧ Below w.heap.size w w' := by
  refine Goes.begin Tryz.func57 [] (fun _ => True) Holds.nil (by simp [Mem.ids]) (fun _ _ => trivial) ?_
  refine Goes.run [1] [(true, true)] ⟨rfl, trivial⟩ ?_
  exact Goes.ret [] (.int .i64 0) fun w' hm hI => ⟨rfl, bel0 hI⟩
theorem Goes.knowQ {P : Program} {F : Exit → Act → World → Prop} {Inv : World → Prop} {s : St} {Q : Prop} (hQ : ∀ w, Holds s.mem w → s.mem.ids.Nodup → Stay s.mem.ids w Inv → Q) (h : Q → Goes P F Inv s) : Goes P F Inv s := fun w a b c => h (hQ w a b c) w a b c
/-- A row of one's own becomes a known block. -/
theorem Goes.row {P : Program} {F : Exit → Act → World → Prop} {Inv : World → Prop} {s : St} {I0 : World → Prop} (base : Nat) (e : TypeId) (size : Nat) (v : Value) (n : Nat) (xs : List Value) (hI : ∀ w, Inv w → I0 w ∧ w.ownsRow base e size v n xs) (hst : ∀ w w', I0 w → Below base w w' → I0 w')
    (hN : n = 0 → (∃ a c, v = .slice a 0 c) → Goes P F I0 s) (hR : ∀ b cap r, 0 < n → v = .slice (some ⟨b, 0, none⟩) n cap → base ≤ b → n ≤ cap → Goes P F I0 ⟨s.todo, s.tmps, s.mem ++ [(b, .cells (xs ++ r).toArray e (0, 0))]⟩) : Goes P F Inv s := by
  intro w hm hn hS
  obtain ⟨-, hlen, hrow⟩ := hI w hS.now
  have hap : ∀ b, v.ownBlock = some b → b ∉ s.mem.ids := fun b hb => row_apart (hS.mono fun w' h => (hI w' h).2) hb
  rcases hrow with ⟨h1, h2⟩ | ⟨b, cap, cur, h1, hb, hcur, hle, hmax, hsz, htake⟩
  · exact hN h2 ⟨_, _, h1⟩ w hm hn (hS.mono fun w' h => (hI w' h).1)
  · rcases Nat.eq_zero_or_pos n with h0 | h0
    · exact hN h0 ⟨_, _, h0 ▸ h1⟩ w hm hn (hS.mono fun w' h => (hI w' h).1)
    have hbn : b ∉ s.mem.ids := hap b (by rw [h1]; rfl)
    have hc : cur = (xs ++ cur.toList.drop (n * size)).toArray := by rw [← htake, List.take_append_drop]
    have hbl := lt_of_get hcur
    refine hR b cap (cur.toList.drop (n * size)) h0 h1 hb hle w ?_ ?_ ?_
    · intro j b' o hj
      rcases List.mem_append.1 (List.mem_of_getElem? hj) with hx | hx
      · obtain ⟨i, hi⟩ := List.getElem?_of_mem hx
        exact hm i b' o hi
      · rw [List.mem_singleton] at hx
        cases hx
        rw [← hc]
        exact hcur
    · unfold Mem.ids
      rw [List.map_append, List.nodup_append]
      refine ⟨hn, by simp, fun x hx y hy e => ?_⟩
      simp only [List.map_cons, List.map_nil, List.mem_singleton] at hy
      subst e
      subst hy
      exact hbn hx
    · intro w2 hc2
      have hbl2 : b < w2.heap.size := Nat.lt_of_lt_of_le hbl hc2.size
      have h3 : Ch s.mem.ids w { w2 with heap := w2.heap.setIfInBounds b (.cells cur e (0, 0)) } := ⟨hc2.os, hc2.tape, hc2.output, by
        show w.heap.size ≤ (w2.heap.setIfInBounds b _).size
        simpa using hc2.size, fun k hk hx => by
        show (w2.heap.setIfInBounds b _)[k]? = _
        by_cases hkb : b = k
        · subst hkb; rw [Array.getElem?_setIfInBounds_self_of_lt hbl2]; exact hcur.symm
        · rw [Array.getElem?_setIfInBounds_ne hkb]
          refine hc2.block k hk (fun hm => ?_)
          unfold Mem.ids at hm
          rw [List.map_append, List.mem_append] at hm
          rcases hm with hm | hm
          · exact hx hm
          · simp at hm; exact hkb hm.symm⟩
      refine hst _ w2 (hI _ (hS _ h3)).1 ⟨rfl, rfl, rfl, by simp, fun k hk => ?_⟩
      show w2.heap[k]? = (w2.heap.setIfInBounds b _)[k]?
      rw [Array.getElem?_setIfInBounds_ne (by omega)]
theorem loadZ {w : World} {b i : Nat} {l : List Int} {r : List Value} {z : Int} (hb : w.heap[b]? = some (zO l r)) (hi : l[i]? = some z) : (Instr.loadAt 3 (.pointer (some ⟨b, i, none⟩))).run Tryz.prog w = .ok (.int .i64 z) w := by
  refine load1 Tryz.isAgg3 ?_
  unfold World.cell?
  rw [hb]
  obtain ⟨hl, he⟩ := List.getElem?_eq_some_iff.1 hi
  simp [zO, List.getElem?_append_left, hl, he]
def ifF : List Int → Bool
  | [x, y, z] => x == 1 && y == z && y != 4
  | _ => false
/-- What is told of a term whose kids have the types l. -/
def endF (op : Int) (l : List Int) : Int × Bool :=
  bif op == 22 then (lastZ l, ifF l) else
  match rkP op with
  | none => (0, false)
  | some (want, t) => bif (want.length : Int) != (l.length : Int) then (0, false) else bif want == l then (t, true) else (0, false)
mutual
def typF (d : Int) : Co → Int × Bool
  | .mk op k t kids =>
    bif !fldP op k t || decide (d > 200) || decide ((kids.length : Int) > 3) then (0, false) else
    match tysF (d + 1) kids with
    | none => (0, false)
    | some l => endF op l
def tysF (d : Int) : List Co → Option (List Int)
  | [] => some []
  | c :: r => bif (typF d c).2 then (tysF d r).map ((typF d c).1 :: ·) else none
end
end Go.Proofs.YthnojedlndblbabGreatDoor
namespace Go.Proofs.YthnojedlndblbabGreatDoor
open Go Go.RowKit

theorem tys_drop {d : Int} {kids : List Co} {i : Nat} {u : Co} {l : List Int} (hd : kids.drop i = u :: kids.drop (i + 1)) (h : (tysF d (kids.drop i)).map (l ++ ·) = tysF d kids) : ((typF d u).2 = false → tysF d kids = none) ∧ ((typF d u).2 = true → (tysF d (kids.drop (i + 1))).map ((l ++ [(typF d u).1]) ++ ·) = tysF d kids) := by
  rw [← h, hd, tysF]
  refine ⟨fun e => by rw [e]; rfl, fun e => ?_⟩
  rw [e, cond_true, Option.map_map]
  congr 1
  funext x
  simp
theorem kids_form {w w' : World} {v : Value} {ks : List Int} (h : KidsAt w w' v ks) : (v = .slice none 0 0 ∧ ks = []) ∨ ∃ g, w.heap.size ≤ g ∧ v = .slice (some ⟨g, 0, none⟩) ks.length ks.length ∧ w'.heap[g]? = some (zO ks []) := by
  rcases h with h | ⟨g, h1, h2, h3, -⟩
  · exact .inl h
  · exact .inr ⟨g, h1, h2, by unfold zO; rw [List.append_nil]; exact h3⟩
theorem kr_form {op : Int} {w w' : World} {e : Ending} (h : Kr3 (rkP op) w e w') : (∃ t ok, rkP op = (bif ok then some ([], t) else none) ∧ (ok = false → t = 0) ∧ e = .returned (.tuple #[.slice none 0 0, .int .i64 t, .bool ok]) ∧ Below w.heap.size w w') ∨ ∃ g ks t, rkP op = some (ks, t) ∧ ks ≠ [] ∧ e = .returned (.tuple #[.slice (some ⟨g, 0, none⟩) ks.length ks.length, .int .i64 t, .bool true]) ∧ w.heap.size ≤ g ∧ w'.heap[g]? = some (zO ks []) ∧ Below w.heap.size w w' := by
  obtain ⟨v, he, hB, hK⟩ := h
  cases hr : rkP op with
  | none =>
    rw [hr] at he hK
    rcases kids_form hK with ⟨rfl, -⟩ | ⟨g, h1, h2, h3⟩
    · exact .inl ⟨0, false, rfl, fun _ => rfl, he, hB⟩
    · rcases hK with ⟨rfl, -⟩ | ⟨g', h1', h2', h3', h4', -⟩
      · cases h2
      · simp at h4'
  | some q =>
    obtain ⟨ks, t⟩ := q
    rw [hr] at he hK
    simp only [Option.map_some, Option.getD_some] at hK
    rcases kids_form hK with ⟨rfl, rfl⟩ | ⟨g, h1, h2, h3⟩
    · exact .inl ⟨t, true, rfl, fun h => (by cases h), he, hB⟩
    · rcases hK with ⟨rfl, rfl⟩ | ⟨g', h1', h2', h3', h4', -⟩
      · cases h2
      · refine .inr ⟨g, ks, t, rfl, fun e => ?_, by rw [he, h2]; rfl, h1, h3, hB⟩
        subst e
        simp at h4'
set_option maxRecDepth 100000 in
seal rn rnS Goes ans atEnd put0 putM opened putA0 putA oneSt st0 keep in
theorem typed_any (c : Co) : ∀ (v : Value) (w : World) (d : Int), 1 ≤ d → d ≤ 201 → Nc w.heap.size w v c → Calls Tryz.prog 39 #[v, .int .i64 d] w fun e w' => e = .returned (.tuple #[.int .i64 (typF d c).1, .bool (typF d c).2]) ∧ Below w.heap.size w w' := by
  induction c using Co.ind with
  | h op k t kids ih =>
    intro v w d hd1 hd2 hN
    obtain ⟨a, cc, rfl, hfit, hcap, hkids⟩ := hN.open
    obtain ⟨N, hL⟩ : ∃ N, kids.length = N := ⟨_, rfl⟩
    rw [hL] at hcap ⊢
    refine Goes.begin Tryz.func39 [] (fun _ => True) Holds.nil (by simp [Mem.ids]) (fun _ _ => trivial) ?_
    refine Goes.run1 [0] [] trivial fun g => ?_
    refine Goes.call0 56 #[cv op k t (.slice a N cc)] (.bool (fldP op k t)) (fun w' _ _ => fld_any op k t a N cc w' hfit.s) ?_
    have no : ∀ {w' : World}, (!fldP op k t || decide (d > 200) || decide ((kids.length : Int) > 3)) = true → Below w.heap.size w w' → (Ending.returned (.tuple #[.int .i64 0, .bool false]) = .returned (.tuple #[.int .i64 (typF d (.mk op k t kids)).1, .bool (typF d (.mk op k t kids)).2])) ∧ Below w.heap.size w w' := fun h hB => ⟨by rw [typF, h, cond_true], hB⟩
    cases hf : fldP op k t with
    | false =>
      refine Goes.run [1, 1, 1] [(true, true), (true, true), (true, true)] ⟨rfl, rfl, rfl, trivial⟩ ?_
      exact Goes.ret [] (.tuple #[.int .i64 0, .bool false]) fun w' hm hI => no (by rw [hf]; rfl) (bel0 hI)
    | true =>
    cases hdp : decide (d > 200) with
    | true =>
      refine Goes.run [0, 1, 1] [(true, true), (decide (d > 200), true), (false, false)] ⟨rfl, hdp, rfl, trivial⟩ ?_
      exact Goes.ret [] (.tuple #[.int .i64 0, .bool false]) fun w' hm hI => no (by rw [hf, hdp]; rfl) (bel0 hI)
    | false =>
    cases hn3 : decide ((N : Int) > 3) with
    | true =>
      refine Goes.run [0, 0, 0, 1] [(decide ((N : Int) > 3), true), (decide (d > 200), false), (false, false)] ⟨hn3, hdp, rfl, trivial⟩ ?_
      exact Goes.ret [] (.tuple #[.int .i64 0, .bool false]) fun w' hm hI => no (by rw [hf, hdp, hL, hn3]; rfl) (bel0 hI)
    | false =>
    have hN3 : N ≤ 3 := by have := of_decide_eq_false hn3; omega
    have hd : d ≤ 200 := by have := of_decide_eq_false hdp; omega
    have hw : IntKind.i64.wrap (d + 1) = d + 1 := IntWalk.i64_in _ ⟨by omega, by omega⟩
    have hgo : (tysF (d + 1) kids = none → typF d (.mk op k t kids) = (0, false)) ∧ ∀ l, tysF (d + 1) kids = some l → typF d (.mk op k t kids) = endF op l := by
      have e : typF d (.mk op k t kids) = (match tysF (d + 1) kids with | none => (0, false) | some l => endF op l) := by
        conv => lhs; rw [typF, hf, hdp, hL, hn3]
        rfl
      refine ⟨fun h => by rw [e, h], fun l h => by rw [e, h]⟩
    refine Goes.run [0, 0, 0, 0] [(decide ((N : Int) > 3), false), (decide (d > 200), false), (false, false)] ⟨hn3, hdp, rfl, trivial⟩ ?_
    refine Goes.knowQ (Q := w.heap.size ≤ g) (fun w' _ _ hI => fresh_of hI (g := g) (ids_get (j := 0) (o := cO op k t (.slice a N cc)) (by kernel_rfl)) (by simp [Mem.ids])) fun hg => ?_
    refine Goes.loop (α := List Int × Value) 114 (fun q => [(1, .int .i64 d), (2, .pointer (some ⟨g, 0, none⟩)), (7, q.2), (8, .int .i64 (q.1.length : Nat))]) (fun _ => [(g, cO op k t (.slice a N cc))]) (fun q w' => Below w.heap.size w w' ∧ w'.ownsRow w.heap.size 3 1 q.2 q.1.length (q.1.map (Value.int .i64)))
      (fun q => q.1.length ≤ N ∧ (tysF (d + 1) (kids.drop q.1.length)).map (q.1 ++ ·) = tysF (d + 1) kids) (fun q => N - q.1.length) ([], .slice none 0 0) ⟨Nat.zero_le _, by simp⟩ (fun w' h => ⟨h.1.toB (fun x hx => by cases hx), by simp, .inl ⟨rfl, rfl⟩⟩) ?_
    rintro ⟨l, rv⟩ J ⟨hi, hrest⟩ back
    simp only at hi hrest back ⊢
    cases hlt : decide ((l.length : Int) < (N : Int)) with
    | true =>
      have hil : l.length < N := by have := of_decide_eq_true hlt; omega
      obtain ⟨u, hu⟩ : ∃ u, kids[l.length]? = some u := ⟨kids[l.length]'(by omega), by simp⟩
      obtain ⟨b, o, x, rfl, hb, hcl, hx⟩ := hkids l.length u hu
      obtain ⟨op', k', t', a', N', c', rfl⟩ := hx.cells
      have hdrop : kids.drop l.length = u :: kids.drop (l.length + 1) := by
        obtain ⟨h1, h2⟩ := List.getElem?_eq_some_iff.1 hu
        rw [List.drop_eq_getElem_cons h1, h2]
      obtain ⟨t0, t1⟩ := tys_drop hdrop hrest
      refine Goes.run [0, 0, 1, 0] [(decide ((l.length : Int) < (N : Int)), true)] ⟨hlt, trivial⟩ ?_
      refine Goes.val (Instr.indexAt 22 (.slice (some ⟨b, o, none⟩) N cc) (.int .i64 l.length)) (.pointer (some ⟨b, o + l.length * 4, none⟩)) (fun w' _ _ => idxC b o N cc l.length hil w') ?_
      refine Goes.val (Instr.loadAt 24 (.pointer (some ⟨b, o + l.length * 4, none⟩))) (cv op' k' t' (.slice a' N' c')) (fun w' _ hI => loadC (hcl.below hb hI.now.1)) ?_
      refine Goes.run [] [] trivial ?_
      refine Goes.slot 43 (.int .i64 (d + 1)) (u := .int .i64 (IntKind.i64.wrap (d + 1))) (congrArg _ hw) ?_
      refine Goes.call0 39 #[cv op' k' t' (.slice a' N' c'), .int .i64 (d + 1)] (.tuple #[.int .i64 (typF (d + 1) u).1, .bool (typF (d + 1) u).2]) (fun w' _ hI => ih u (List.mem_of_getElem? hu) _ w' (d + 1) (by omega) (by omega) (hx.at hI.now.1)) ?_
      cases hty : typF (d + 1) u with
      | mk z bz =>
      rw [hty] at t0 t1
      cases bz with
      | false =>
        refine Goes.run [1] [(true, true)] ⟨rfl, trivial⟩ ?_
        exact Goes.ret [] (.tuple #[.int .i64 0, .bool false]) fun w' hm hI => ⟨by rw [hgo.1 (t0 rfl)], hI.now.1⟩
      | true =>
        refine Goes.run1 [0] [(false, false)] ⟨rfl, trivial⟩ fun gb => ?_
        refine Goes.append (I0 := Below w.heap.size w) w.heap.size 78 3 78 1 8 rv l.length (l.map (Value.int .i64)) 1 gb 1 1 [.int .i64 z] 3 (0, 0) (fun w' h => ⟨h.1, h.2, h.1.size⟩) (fun w' w'' h h' => h.trans h') rfl (by simp [Value.oneCell']) (by decide) (by unfold maxLen; omega) (by omega) fun ra rc => ?_
        refine Goes.keep 1 ?_
        refine Goes.run [] [] trivial ?_
        refine Goes.slot 8 (.int .i64 ((l ++ [z]).length : Nat)) (u := .int .i64 (IntKind.i64.wrap ((l.length : Int) + 1))) (congrArg _ ((wrap_nat (by omega)).trans (by simp))) ?_
        refine (back (l ++ [z], .slice ra (l.length + 1) rc) _ ⟨by simp; omega, by simpa using t1 rfl⟩ (by simp; omega) (by kernel_rfl) (by kernel_rfl) (by kernel_rfl)).inv fun w' h => ⟨h.1, by simpa using h.2⟩
    | false =>
    obtain rfl : N = l.length := by have := of_decide_eq_false hlt; omega
    have hT : tysF (d + 1) kids = some l := by rw [← hrest, List.drop_of_length_le (by omega)]; simp [tysF]
    rw [hgo.2 l hT]
    cases h22 : (op == 22) with
    | true =>
      have eE : endF op l = (lastZ l, ifF l) := by unfold endF; rw [h22] <;> rfl
      rw [eE]
      refine Goes.row (I0 := Below w.heap.size w) w.heap.size 3 1 rv l.length (l.map (Value.int .i64)) (fun w' h => h) (fun w' w'' h h' => h.trans h') (fun e0 ⟨ra, rc, e⟩ => ?_) (fun b cap r hn0 e hb hle => ?_)
      · obtain rfl : l = [] := List.eq_nil_of_length_eq_zero e0
        subst e
        refine Goes.run [0, 0, 0, 0, 1] [(op == 22, true), (false, false)] ⟨h22, rfl, trivial⟩ ?_
        refine Goes.open [] ?_
        refine Goes.run [0, 2, 3, 4] [] trivial ?_
        refine Goes.callA0 1 57 #[.slice ra 0 rc] (.int .i64 0) (fun w' _ _ => last_nil ra rc w') ?_
        refine Goes.run [5, 6, 7, 8, 9, 10, 11, 12, 13, 14, 15, 16, 17, 18, 19, 20, 21, 22, 23, 24, 25, 26, 27] [] trivial ?_
        exact Goes.ret [] (.tuple #[.int .i64 0, .bool false]) fun w' hm hI => ⟨rfl, hI.now⟩
      · subst e
        match l, hn0, hN3 with
          | [x], _, _ =>
            refine Goes.run [0, 0, 0, 0, 1] [(op == 22, true), (false, false)] ⟨h22, rfl, trivial⟩ ?_
            refine Goes.open [1] ?_
            refine Goes.run [0, 2, 3, 4] [] trivial ?_
            refine Goes.callA0 1 57 #[.slice (some ⟨b, 0, none⟩) 1 cap] (.int .i64 x) (fun w' hm _ => last_any b cap [x] r (by simp) (by simp) w' (hm.get 1)) ?_
            refine Goes.run [5, 6, 7, 8, 9, 10, 11, 12, 13, 14, 15, 16, 17, 18, 19, 20, 21, 22, 23, 24, 25, 26, 27] [] trivial ?_
            exact Goes.ret [] (.tuple #[.int .i64 x, .bool false]) fun w' hm hI => ⟨rfl, hI.now⟩
          | [x, y], _, _ =>
            refine Goes.run [0, 0, 0, 0, 1] [(op == 22, true), (false, false)] ⟨h22, rfl, trivial⟩ ?_
            refine Goes.open [1] ?_
            refine Goes.run [0, 2, 3, 4] [] trivial ?_
            refine Goes.callA0 1 57 #[.slice (some ⟨b, 0, none⟩) 2 cap] (.int .i64 y) (fun w' hm _ => last_any b cap [x, y] r (by simp) (by simp) w' (hm.get 1)) ?_
            refine Goes.run [5, 6, 7, 8, 9, 10, 11, 12, 13, 14, 15, 16, 17, 18, 19, 20, 21, 22, 23, 24, 25, 26, 27] [] trivial ?_
            exact Goes.ret [] (.tuple #[.int .i64 y, .bool false]) fun w' hm hI => ⟨rfl, hI.now⟩
          | [x, y, z], _, _ =>
            refine Goes.run [0, 0, 0, 0, 1] [(op == 22, true), (false, false)] ⟨h22, rfl, trivial⟩ ?_
            refine Goes.open [1] ?_
            refine Goes.run [0, 2, 3, 4] [] trivial ?_
            refine Goes.callA0 1 57 #[.slice (some ⟨b, 0, none⟩) 3 cap] (.int .i64 z) (fun w' hm _ => last_any b cap [x, y, z] r (by simp) (by simp) w' (hm.get 1)) ?_
            refine Goes.run [5, 6, 7, 0, 8, 0, 9] [] trivial ?_
            cases hx1 : (x == 1) with
            | false =>
              refine Goes.slot 65 (.bool false) (u := .bool (x == 1)) (congrArg _ hx1) ?_
              refine Goes.run [10, 11, 12, 13, 14, 15, 16, 17, 18, 19, 20, 21, 22, 23, 24, 25, 26, 27] [] trivial ?_
              exact Goes.ret [] (.tuple #[.int .i64 z, .bool false]) fun w' hm hI => ⟨by simp only [lastZ, ifF, hx1, Bool.false_and], hI.now⟩
            | true =>
              refine Goes.slot 65 (.bool true) (u := .bool (x == 1)) (congrArg _ hx1) ?_
              refine Goes.run [10, 11, 12, 13, 0, 14, 0, 15, 16, 0, 17, 0, 18] [] trivial ?_
              cases hyz : (y == z) with
              | false =>
                refine Goes.slot 74 (.bool false) (u := .bool (y == z)) (congrArg _ hyz) ?_
                refine Goes.run [19, 20, 21, 22, 23, 24, 25, 26, 27] [] trivial ?_
                exact Goes.ret [] (.tuple #[.int .i64 z, .bool false]) fun w' hm hI => ⟨by simp only [lastZ, ifF, hx1, hyz, Bool.true_and, Bool.false_and], hI.now⟩
              | true =>
                refine Goes.slot 74 (.bool true) (u := .bool (y == z)) (congrArg _ hyz) ?_
                refine Goes.run [19, 20, 21, 22, 0, 23, 0, 24, 25, 26, 27] [] trivial ?_
                exact Goes.ret [] (.tuple #[.int .i64 z, .bool (y != 4)]) fun w' hm hI => ⟨by simp only [lastZ, ifF, hx1, hyz, Bool.true_and], hI.now⟩
    | false =>
      have eE : endF op l = (match rkP op with | none => (0, false) | some (want, t) => bif (want.length : Int) != (l.length : Int) then (0, false) else bif want == l then (t, true) else (0, false)) := by unfold endF; rw [h22] <;> rfl
      rw [eE]
      refine Goes.row (I0 := Below w.heap.size w) w.heap.size 3 1 rv l.length (l.map (Value.int .i64)) (fun w' h => h) (fun w' w'' h h' => h.trans h') (fun e0 ⟨ra, rc, e⟩ => ?_) (fun b cap r hn0 e hb hle => ?_)
      · obtain rfl : l = [] := List.eq_nil_of_length_eq_zero e0
        subst e
        refine Goes.run [0, 0, 0, 0, 0, 0] [(op == 22, false), (false, false)] ⟨h22, rfl, trivial⟩ ?_
        refine Goes.call 58 #[.int .i64 op] fun w1 hm1 hn1 hI1 => (rk_any op w1).mono fun e w2 hk => ?_
        rcases kr_form hk with ⟨t', ok, hr, h0, rfl, hB⟩ | ⟨g', ks, t', hr, hne, rfl, hg', hz, hB⟩
        · refine ⟨_, Below w.heap.size w, _, rfl, hm1.bel hB, hn1, hI1.bel hB, ?_⟩
          cases ok with
          | false =>
            refine Goes.run [1, 1] [(true, true), (true, true)] ⟨rfl, rfl, trivial⟩ ?_
            exact Goes.ret [] (.tuple #[.int .i64 0, .bool false]) fun w' hm hI => ⟨by rw [hr]; rfl, hI.now⟩
          | true =>
            refine Goes.run [0, 0, 0, 0] [(false, false), (false, false), (false, false)] ⟨rfl, rfl, rfl, trivial⟩ ?_
            exact Goes.ret [] (.tuple #[.int .i64 t', .bool true]) fun w' hm hI => ⟨by rw [hr]; rfl, hI.now⟩
        · have hq : ((ks.length : Int) != ((0 : Nat) : Int)) = true := by cases ks with | nil => exact absurd rfl hne | cons x y => simp; omega
          refine ⟨_, Below w.heap.size w, _, rfl, hm1.bel hB, hn1, hI1.bel hB, ?_⟩
          refine Goes.run [0, 1] [((ks.length : Int) != ((0 : Nat) : Int), true), (false, false)] ⟨hq, rfl, trivial⟩ ?_
          exact Goes.ret [] (.tuple #[.int .i64 0, .bool false]) fun w' hm hI => ⟨by rw [hr]; simp only [List.length_nil, hq, cond_true], hI.now⟩
      · subst e
        refine Goes.run [0, 0, 0, 0, 0, 0] [(op == 22, false), (decide ((l.length : Int) < (l.length : Int)), false)] ⟨h22, by simp, trivial⟩ ?_
        refine Goes.call 58 #[.int .i64 op] fun w1 hm1 hn1 hI1 => (rk_any op w1).mono fun e w2 hk => ?_
        rcases kr_form hk with ⟨t', ok, hr, h0, rfl, hB⟩ | ⟨g', ks, t', hr, hne, rfl, hg', hz, hB⟩
        · refine ⟨_, Below w.heap.size w, _, rfl, hm1.bel hB, hn1, hI1.bel hB, ?_⟩
          cases ok with
          | false =>
            refine Goes.run [1, 1] [(true, true), (true, true)] ⟨rfl, rfl, trivial⟩ ?_
            exact Goes.ret [] (.tuple #[.int .i64 0, .bool false]) fun w' hm hI => ⟨by rw [hr]; rfl, hI.now⟩
          | true =>
            have hq : (((0 : Nat) : Int) != (l.length : Int)) = true := by simp; omega
            refine Goes.run [0, 1] [(((0 : Nat) : Int) != (l.length : Int), true), (false, false)] ⟨hq, rfl, trivial⟩ ?_
            exact Goes.ret [] (.tuple #[.int .i64 0, .bool false]) fun w' hm hI => ⟨by rw [hr]; simp only [cond_true, List.length_nil, hq], hI.now⟩
        · have hids : [g, b].Nodup := Nodup.of_ids hn1
          have x0 : w1.heap[g]? = some (cO op k t (.slice a l.length cc)) := hm1.get 0
          have x1 : w1.heap[b]? = some (zO l r) := hm1.get 1
          have lg := lt_of_get x0
          have lb := lt_of_get x1
          refine ⟨_, Below w.heap.size w, [(g, cO op k t (.slice a l.length cc)), (b, zO l r), (g', zO ks [])], rfl, fun j b' o h => by match j, h with | 0, h => (cases h; exact (hB.block g lg).trans x0) | 1, h => (cases h; exact (hB.block b lb).trans x1) | 2, h => (cases h; exact hz), ?_, ?_, ?_⟩
          · simp only [Mem.ids, List.map_cons, List.map_nil, List.nodup_cons, List.mem_cons, List.not_mem_nil, or_false, not_or] at hids ⊢
            exact ⟨⟨hids.1, by omega⟩, by omega, by simp, by simp⟩
          · intro w3 hc
            have hBw : Below w.heap.size w w2 := (hI1.now).trans (hB.mono hI1.now.size)
            refine hBw.trans ⟨hc.os, hc.tape, hc.output, hc.size, fun i hi => hc.block i (Nat.lt_of_lt_of_le hi hBw.size) (fun hm => ?_)⟩
            have := hI1.now.size
            simp only [Mem.ids, List.map_cons, List.map_nil, List.mem_cons, List.not_mem_nil, or_false] at hm
            rcases hm with rfl | rfl | rfl <;> omega
          cases hq : ((ks.length : Int) != (l.length : Int)) with
          | true =>
            refine Goes.run [0, 1] [((ks.length : Int) != (l.length : Int), true), (false, false)] ⟨hq, rfl, trivial⟩ ?_
            exact Goes.ret [] (.tuple #[.int .i64 0, .bool false]) fun w' hm hI => ⟨by rw [hr]; simp only [hq, cond_true], hI.now⟩
          | false =>
            have hkl : ks.length = l.length := by simp at hq; omega
            have eR : (match rkP op with | none => (0, false) | some (want, t) => bif (want.length : Int) != (l.length : Int) then (0, false) else bif want == l then (t, true) else (0, false)) = bif ks == l then (t', true) else (0, false) := by rw [hr]; simp only [hq, cond_false]
            rw [eR]
            refine Goes.run [0, 0] [((ks.length : Int) != (l.length : Int), false), (false, false)] ⟨hq, rfl, trivial⟩ ?_
            refine Goes.loop0 (α := Nat) 114 (fun j => [(7, .slice (some ⟨b, 0, none⟩) l.length cap), (11, .slice (some ⟨g', 0, none⟩) ks.length ks.length), (12, .int .i64 t'), (14, .int .i64 j)]) [(g, cO op k t (.slice a l.length cc)), (b, zO l r), (g', zO ks [])] (fun j => j ≤ l.length ∧ (ks == l) = (ks.drop j == l.drop j)) (fun j => l.length - j) 0 ⟨Nat.zero_le _, rfl⟩ ?_
            rintro j J2 ⟨hj, hjq⟩ back2
            cases hjl : decide ((j : Int) < (l.length : Int)) with
            | false =>
              have hje : l.length ≤ j := by have := of_decide_eq_false hjl; omega
              refine Goes.run [0, 0] [(decide ((j : Int) < (l.length : Int)), false)] ⟨hjl, trivial⟩ ?_
              exact Goes.ret [] (.tuple #[.int .i64 t', .bool true]) fun w' hm hI => ⟨by rw [hjq, List.drop_of_length_le hje, List.drop_of_length_le (by omega)]; rfl, hI.now⟩
            | true =>
              have hjl' : j < l.length := by have := of_decide_eq_true hjl; omega
              obtain ⟨x, hx⟩ : ∃ x, l[j]? = some x := ⟨l[j], by simp⟩
              obtain ⟨y, hy⟩ : ∃ y, ks[j]? = some y := ⟨ks[j]'(by omega), by simp⟩
              have d1 : l.drop j = x :: l.drop (j + 1) := by
                obtain ⟨h1, h2⟩ := List.getElem?_eq_some_iff.1 hx
                rw [List.drop_eq_getElem_cons h1, h2]
              have d2 : ks.drop j = y :: ks.drop (j + 1) := by
                obtain ⟨h1, h2⟩ := List.getElem?_eq_some_iff.1 hy
                rw [List.drop_eq_getElem_cons h1, h2]
              refine Goes.run [0, 1] [(decide ((j : Int) < (l.length : Int)), true)] ⟨hjl, trivial⟩ ?_
              refine Goes.open [1, 2] ?_
              refine Goes.run [0, 1, 4, 5] [] trivial ?_
              refine Goes.valA 2 (Instr.indexAt 78 (.slice (some ⟨b, 0, none⟩) l.length cap) (.int .i64 j)) (.pointer (some ⟨b, j, none⟩)) (fun w' _ => idxI b _ cap j hjl' w') ?_
              refine Goes.valA 3 (Instr.loadAt 3 (.pointer (some ⟨b, j, none⟩))) (.int .i64 x) (fun w' h => loadZ (r := r) (h.get 0) hx) ?_
              refine Goes.valA 6 (Instr.indexAt 78 (.slice (some ⟨g', 0, none⟩) ks.length ks.length) (.int .i64 j)) (.pointer (some ⟨g', j, none⟩)) (fun w' _ => idxI g' _ _ j (by omega) w') ?_
              refine Goes.valA 7 (Instr.loadAt 3 (.pointer (some ⟨g', j, none⟩))) (.int .i64 y) (fun w' h => loadZ (r := []) (h.get 1) hy) ?_
              refine Goes.run [8] [] trivial ?_
              cases hxy : (x != y) with
              | true =>
                refine Goes.run [1] [(x != y, true)] ⟨hxy, trivial⟩ ?_
                exact Goes.ret [] (.tuple #[.int .i64 0, .bool false]) fun w' hm hI => ⟨by
                  have : (y == x) = false := by rw [beq_eq_false_iff_ne]; intro e; subst e; simp at hxy
                  rw [hjq, d1, d2, List.cons_beq_cons, this]; rfl, hI.now⟩
              | false =>
                have hxe : x = y := by simpa using hxy
                subst hxe
                refine Goes.run [0] [(x != x, false)] ⟨hxy, trivial⟩ ?_
                refine Goes.slot 14 (.int .i64 (j + 1 : Nat)) (u := .int .i64 (IntKind.i64.wrap ((j : Int) + 1))) (congrArg _ (wrap_nat (by omega))) ?_
                exact back2 (j + 1) _ ⟨hjl', by rw [hjq, d1, d2, List.cons_beq_cons, beq_self_eq_true, Bool.true_and]⟩ (by omega) (by kernel_rfl) (by kernel_rfl) (by kernel_rfl)
end Go.Proofs.YthnojedlndblbabGreatDoor
namespace Go.Proofs.YthnojedlndblbabGreatDoor
open Go Go.RowKit

mutual
def lefF (m d : Int) : Co → Int
  | .mk _ _ _ kids => bif decide (d > 200) then -1 else lefL (m - 1) (d + 1) kids
def lefL (m d : Int) : List Co → Int
  | [] => m
  | c :: r => bif decide (m ≥ 0) then lefL (lefF m d c) d r else m
end
mutual
theorem lef_low : ∀ (c : Co) (m d : Int), 0 ≤ m → -1 ≤ lefF m d c ∧ lefF m d c ≤ m
  | .mk _ _ _ kids, m, d, h => by
    rw [lefF]
    cases decide (d > 200) with
    | true => exact ⟨by simp, by simp; omega⟩
    | false => have := lef_lowL kids (m - 1) (d + 1) (by omega); simp only [cond_false]; omega
theorem lef_lowL : ∀ (l : List Co) (m d : Int), -1 ≤ m → -1 ≤ lefL m d l ∧ lefL m d l ≤ m
  | [], m, d, h => by rw [lefL]; omega
  | c :: r, m, d, h => by
    rw [lefL]
    cases hm : decide (m ≥ 0) with
    | true =>
      have h1 := lef_low c m d (of_decide_eq_true hm)
      have h2 := lef_lowL r (lefF m d c) d h1.1
      simp only [cond_true]; omega
    | false => simp only [cond_false]; omega
end
theorem drop_at {kids : List Co} {i : Nat} {u : Co} (hu : kids[i]? = some u) : kids.drop i = u :: kids.drop (i + 1) := by
  obtain ⟨h1, h2⟩ := List.getElem?_eq_some_iff.1 hu
  rw [List.drop_eq_getElem_cons h1, h2]
set_option maxRecDepth 100000 in
seal rn rnN rnS Goes ans atEnd put0 putM opened putA0 putA oneSt st0 orT orG in
theorem leftC_any (c : Co) : ∀ (v : Value) (w : World) (m d : Int), 0 ≤ m → m ≤ 2000 → 1 ≤ d → d ≤ 201 → Nc w.heap.size w v c → Calls Tryz.prog 55 #[v, .int .i64 m, .int .i64 d] w fun e w' => e = .returned (.int .i64 (lefF m d c)) ∧ Below w.heap.size w w' := by
  induction c using Co.ind with
  | h op k t kids ih =>
    intro v w m d hm0 hm1 hd1 hd2 hN
    obtain ⟨a, cc, rfl, hfit, hcap, hkids⟩ := hN.open
    obtain ⟨N, hL⟩ : ∃ N, kids.length = N := ⟨_, rfl⟩
    rw [hL] at hcap ⊢
    have hw1 : IntKind.i64.wrap (m - 1) = m - 1 := IntWalk.i64_in _ ⟨by omega, by omega⟩
    refine Goes.begin Tryz.func55 [] (fun _ => True) Holds.nil (by simp [Mem.ids]) (fun _ _ => trivial) ?_
    cases h1 : decide (d > 200) with
    | true =>
      refine Goes.run1 [1] [(decide (d > 200), true)] ⟨h1, trivial⟩ fun g => ?_
      exact Goes.ret [] (.int .i64 (-1)) fun w' hm hI => ⟨by rw [lefF, h1] <;> rfl, bel0 hI⟩
    | false =>
      have hd : d ≤ 200 := by have := of_decide_eq_false h1; omega
      have hw : IntKind.i64.wrap (d + 1) = d + 1 := IntWalk.i64_in _ ⟨by omega, by omega⟩
      refine Goes.run1 [0] [(decide (d > 200), false)] ⟨h1, trivial⟩ fun g => ?_
      refine Goes.slot 1 (.int .i64 (m - 1)) (u := .int .i64 (IntKind.i64.wrap (m - 1))) (congrArg _ hw1) ?_
      have hW : lefF m d (.mk op k t kids) = lefL (m - 1) (d + 1) kids := by rw [lefF, h1] <;> rfl
      rw [hW]
      refine Goes.loop0 (α := Nat × Int) 33 (fun q => [(1, .int .i64 q.2), (2, .int .i64 d), (3, .pointer (some ⟨g, 0, none⟩)), (7, .int .i64 q.1)]) [(g, cO op k t (.slice a N cc))] (fun q => q.1 ≤ N ∧ lefL (m - 1) (d + 1) kids = lefL q.2 (d + 1) (kids.drop q.1) ∧ -1 ≤ q.2 ∧ q.2 ≤ 2000) (fun q => N - q.1) (0, m - 1) ⟨Nat.zero_le _, rfl, by simp; omega, by simp; omega⟩ ?_
      rintro ⟨i, x⟩ J ⟨hi, hrest, hx0, hx1⟩ back
      simp only at hi hrest hx0 hx1 back ⊢
      cases hlt : decide ((i : Int) < (N : Int)) with
      | false =>
        obtain rfl : i = N := by have := of_decide_eq_false hlt; omega
        refine Goes.run [0, 0, 0, 0] [(false, false), (decide ((i : Int) < (i : Int)), false)] ⟨rfl, hlt, trivial⟩ ?_
        exact Goes.ret [] (.int .i64 x) fun w' hm hI => ⟨by rw [hrest, List.drop_of_length_le (by omega), lefL], bel0 hI⟩
      | true =>
        have hil : i < N := by have := of_decide_eq_true hlt; omega
        obtain ⟨u, hu⟩ : ∃ u, kids[i]? = some u := ⟨kids[i]'(by omega), by simp⟩
        obtain ⟨b, o, y, rfl, hb, hcl, hy⟩ := hkids i u hu
        obtain ⟨op', k', t', a', N', c', rfl⟩ := hy.cells
        have hdrop := drop_at hu
        cases hx : decide (x ≥ 0) with
        | false =>
          refine Goes.run [0, 0, 1, 0] [(decide (x ≥ 0), false), (decide ((i : Int) < (N : Int)), true)] ⟨hx, hlt, trivial⟩ ?_
          exact Goes.ret [] (.int .i64 x) fun w' hm hI => ⟨by rw [hrest, hdrop, lefL, hx]; rfl, bel0 hI⟩
        | true =>
          have hx' := of_decide_eq_true hx
          have hlow := lef_low u x (d + 1) hx'
          refine Goes.run [0, 0, 1, 1, 0] [(decide (x ≥ 0), true), (decide ((i : Int) < (N : Int)), true)] ⟨hx, hlt, trivial⟩ ?_
          refine Goes.val (Instr.indexAt 22 (.slice (some ⟨b, o, none⟩) N cc) (.int .i64 i)) (.pointer (some ⟨b, o + i * 4, none⟩)) (fun w' _ _ => idxC b o N cc i hil w') ?_
          refine Goes.val (Instr.loadAt 24 (.pointer (some ⟨b, o + i * 4, none⟩))) (cv op' k' t' (.slice a' N' c')) (fun w' _ hI => loadC (hcl.below hb (bel0 hI))) ?_
          refine Goes.run [] [] trivial ?_
          refine Goes.slot 30 (.int .i64 (d + 1)) (u := .int .i64 (IntKind.i64.wrap (d + 1))) (congrArg _ hw) ?_
          refine Goes.call0 55 #[cv op' k' t' (.slice a' N' c'), .int .i64 x, .int .i64 (d + 1)] (.int .i64 (lefF x (d + 1) u)) (fun w' _ hI => ih u (List.mem_of_getElem? hu) _ w' x (d + 1) hx' hx1 (by omega) (by omega) (hy.at (bel0 hI))) ?_
          refine Goes.run [] [] trivial ?_
          refine Goes.slot 7 (.int .i64 (i + 1 : Nat)) (u := .int .i64 (IntKind.i64.wrap ((i : Int) + 1))) (congrArg _ (wrap_nat (by omega))) ?_
          exact back (i + 1, lefF x (d + 1) u) _ ⟨hil, by rw [hrest, hdrop, lefL, hx]; rfl, hlow.1, by simp only; omega⟩ (by simp only; omega) (by kernel_rfl) (by kernel_rfl) (by kernel_rfl)
def smaP (c : Co) : Bool := decide (lefF 2000 1 c ≥ 0)
set_option maxRecDepth 100000 in
seal rn rnN rnS Goes ans atEnd put0 putM opened putA0 putA oneSt st0 orT orG in
theorem smallC_any {c : Co} {v : Value} {w : World} (hN : Nc w.heap.size w v c) : Calls Tryz.prog 38 #[v] w fun e w' => e = .returned (.bool (smaP c)) ∧ Below w.heap.size w w' := by
  obtain ⟨op, k, t, a, N, cc, rfl⟩ := hN.cells
  refine Goes.begin Tryz.func38 [] (fun _ => True) Holds.nil (by simp [Mem.ids]) (fun _ _ => trivial) ?_
  refine Goes.run1 [0] [] trivial fun g => ?_
  refine Goes.call0 55 #[cv op k t (.slice a N cc), .int .i64 2000, .int .i64 1] (.int .i64 (lefF 2000 1 c)) (fun w' _ hI => leftC_any c _ w' 2000 1 (by omega) (by omega) (by omega) (by omega) (hN.at (bel0 hI))) ?_
  refine Goes.run [] [] trivial ?_
  exact Goes.ret [] (.bool (smaP c)) fun w' hm hI => ⟨rfl, bel0 hI⟩
mutual
def hrF : Co → Int
  | .mk op k _ kids => hrL (bif dateP op then k else 0) kids
def hrL (n : Int) : List Co → Int
  | [] => n
  | c :: r => hrL (if hrF c > n then hrF c else n) r
end
set_option maxRecDepth 100000 in
seal rn rnN rnS Goes ans atEnd put0 putM opened putA0 putA oneSt st0 orT orG in
theorem hor_any (c : Co) : ∀ (v : Value) (w : World), Nc w.heap.size w v c → Calls Tryz.prog 21 #[v] w fun e w' => e = .returned (.int .i64 (hrF c)) ∧ Below w.heap.size w w' := by
  induction c using Co.ind with
  | h op k t kids ih =>
    intro v w hN
    obtain ⟨a, cc, rfl, hfit, hcap, hkids⟩ := hN.open
    obtain ⟨N, hL⟩ : ∃ N, kids.length = N := ⟨_, rfl⟩
    rw [hL] at hcap ⊢
    refine Goes.begin Tryz.func21 [] (fun _ => True) Holds.nil (by simp [Mem.ids]) (fun _ _ => trivial) ?_
    refine Goes.run1 [] [] trivial fun g => ?_
    refine Goes.fork (op == 29) 13 36 [(1, .pointer (some ⟨g, 0, none⟩)), (3, .int .i64 0), (12, .bool (op == 29 || op == 30))] [(1, .pointer (some ⟨g, 0, none⟩)), (3, .int .i64 0), (12, .bool true)] [(1, .pointer (some ⟨g, 0, none⟩)), (3, .int .i64 0), (12, .bool (op == 30))] [0, 1] [0, 0, 0] [(op == 29, true)] [(op == 29, false)] (fun h => ⟨by simp only [h, Bool.true_or], h, trivial⟩) (fun h => ⟨by simp only [h, Bool.false_or], h, trivial⟩) fun J1 => ?_
    rw [hrF]
    refine Goes.meet 4 36 [(1, .pointer (some ⟨g, 0, none⟩)), (3, .int .i64 (bif dateP op then k else 0))] [1, 1, 0] (fun H => ?_) (fun J2 => ?_)
    · rcases Bool.eq_false_or_eq_true (op == 29 || op == 30) with h1 | h1
      · exact Goes.way H [1, 1, 0] [(1, .pointer (some ⟨g, 0, none⟩)), (3, .int .i64 k)] [(true, true), (op == 29 || op == 30, true)] (by simp only [dateP, h1, Bool.true_or, cond_true]) ⟨rfl, h1, trivial⟩
      · rcases Bool.eq_false_or_eq_true (op == 31) with h2 | h2
        · exact Goes.way H [0, 0, 1, 0] [(1, .pointer (some ⟨g, 0, none⟩)), (3, .int .i64 k)] [(op == 31, true), (op == 29 || op == 30, false)] (by simp only [dateP, h1, h2, Bool.false_or, cond_true]) ⟨h2, h1, trivial⟩
        · exact Goes.way H [0, 0, 0] [(1, .pointer (some ⟨g, 0, none⟩)), (3, .int .i64 0)] [(op == 31, false), (op == 29 || op == 30, false)] (by simp only [dateP, h1, h2, Bool.false_or, cond_false]) ⟨h2, h1, trivial⟩
    · refine Goes.run [] [] trivial ?_
      refine Goes.loop0 (α := Nat × Int) 36 (fun q => [(1, .pointer (some ⟨g, 0, none⟩)), (3, .int .i64 q.2), (4, .int .i64 q.1)]) [(g, cO op k t (.slice a N cc))] (fun q => q.1 ≤ N ∧ hrL (bif dateP op then k else 0) kids = hrL q.2 (kids.drop q.1)) (fun q => N - q.1) (0, bif dateP op then k else 0) ⟨Nat.zero_le _, rfl⟩ ?_
      rintro ⟨i, x⟩ J ⟨hi, hrest⟩ back
      simp only at hi hrest back ⊢
      cases hlt : decide ((i : Int) < (N : Int)) with
      | false =>
        obtain rfl : i = N := by have := of_decide_eq_false hlt; omega
        refine Goes.run [0, 0, 0] [(decide ((i : Int) < (i : Int)), false)] ⟨hlt, trivial⟩ ?_
        exact Goes.ret [] (.int .i64 x) fun w' hm hI => ⟨by rw [hrest, List.drop_of_length_le (by omega), hrL], bel0 hI⟩
      | true =>
        have hil : i < N := by have := of_decide_eq_true hlt; omega
        obtain ⟨u, hu⟩ : ∃ u, kids[i]? = some u := ⟨kids[i]'(by omega), by simp⟩
        obtain ⟨b, o, y, rfl, hb, hcl, hy⟩ := hkids i u hu
        obtain ⟨op', k', t', a', N', c', rfl⟩ := hy.cells
        have hdrop := drop_at hu
        refine Goes.run [0, 0, 1, 0] [(decide ((i : Int) < (N : Int)), true)] ⟨hlt, trivial⟩ ?_
        refine Goes.val (Instr.indexAt 22 (.slice (some ⟨b, o, none⟩) N cc) (.int .i64 i)) (.pointer (some ⟨b, o + i * 4, none⟩)) (fun w' _ _ => idxC b o N cc i hil w') ?_
        refine Goes.val (Instr.loadAt 24 (.pointer (some ⟨b, o + i * 4, none⟩))) (cv op' k' t' (.slice a' N' c')) (fun w' _ hI => loadC (hcl.below hb (bel0 hI))) ?_
        refine Goes.call0 21 #[cv op' k' t' (.slice a' N' c')] (.int .i64 (hrF u)) (fun w' _ hI => ih u (List.mem_of_getElem? hu) _ w' (hy.at (bel0 hI))) ?_
        refine Goes.run [0] [] trivial ?_
        refine Goes.slot 4 (.int .i64 (i + 1 : Nat)) (u := .int .i64 (IntKind.i64.wrap ((i : Int) + 1))) (congrArg _ (wrap_nat (by omega))) ?_
        exact back (i + 1, if hrF u > x then hrF u else x) _ ⟨hil, by rw [hrest, hdrop, hrL]⟩ (by simp only; omega) (by kernel_rfl) (by kernel_rfl) (by kernel_rfl)
end Go.Proofs.YthnojedlndblbabGreatDoor
namespace Go.Proofs.YthnojedlndblbabGreatDoor
open Go Go.RowKit

theorem rk_small : ∀ n : Fin 32, ∀ t ∈ [(0 : Int), 1, 2, 4], ((n : Nat) : Int) ≠ 22 → kOf ((n : Nat) : Int) t = (match rkP ((n : Nat) : Int) with | some (ks, t') => bif t' == t then some ks else none | none => none) := by decide
theorem rk_ty : ∀ n : Fin 32, ((rkP ((n : Nat) : Int)).map fun q => q.2 == 0 || q.2 == 1 || q.2 == 2 || q.2 == 4).getD true = true := by decide
theorem rk_out {op : Int} (h : op < 0 ∨ 31 < op) : rkP op = none ∧ (op == 22) = false ∧ ∀ t, kOf op t = none := by
  have hc : ∀ c : Int, 0 ≤ c → c ≤ 31 → (op == c) = false := fun c h0 h1 => by rw [beq_eq_false_iff_ne]; omega
  have h22 := hc 22 (by omega) (by omega)
  refine ⟨?_, h22, fun t => ?_⟩
  · unfold rkP
    simp [hc]
  · unfold kOf kContract kNumber kTruth kDay
    simp [hc]
theorem rk_op {op t : Int} (ht : tyOk t) (h22 : (op == 22) = false) : kOf op t = (match rkP op with | some (ks, t') => bif t' == t then some ks else none | none => none) := by
  by_cases h : op < 0 ∨ 31 < op
  · obtain ⟨h1, -, h3⟩ := rk_out h
    rw [h1, h3]
  · have hn : ((op.toNat : Nat) : Int) = op := by omega
    have := rk_small ⟨op.toNat, by omega⟩ t (by rcases ht with h | h | h | h <;> simp [h]) (by simp only [hn]; simpa using h22)
    simp only [hn] at this
    exact this
theorem rk_tyOk {op t : Int} {ks : List Int} (h : rkP op = some (ks, t)) : tyOk t := by
  by_cases ho : op < 0 ∨ 31 < op
  · rw [(rk_out ho).1] at h; cases h
  · have hn : ((op.toNat : Nat) : Int) = op := by omega
    have := rk_ty ⟨op.toNat, by omega⟩
    simp only [hn, h, Option.map_some, Option.getD_some, Bool.or_eq_true, beq_iff_eq] at this
    unfold tyOk
    omega
theorem k22 {t : Int} : kOf 22 t = bif t == 4 then none else some [1, t, t] := by
  unfold kOf
  cases h : (t == 4) with
  | true => rfl
  | false => rfl
theorem if_shape {l : List Int} (h : ifF l = true) : ∃ y, l = [1, y, y] ∧ y ≠ 4 := by
  unfold ifF at h
  split at h
  · simp only [Bool.and_eq_true, beq_iff_eq, bne_iff_ne] at h
    obtain ⟨⟨rfl, rfl⟩, h3⟩ := h
    exact ⟨_, rfl, h3⟩
  · cases h
/-- How a term is right. -/
theorem typ_parts {d op k : Int} {t : List UInt8} {kids : List Co} {z : Int} : typF d (.mk op k t kids) = (z, true) ↔ (ownC op k t = true ∧ d ≤ 200 ∧ kids.length ≤ 3 ∧ ∃ l, tysF (d + 1) kids = some l ∧ endF op l = (z, true)) := by
  rw [typF, fld_own]
  cases h : (!ownC op k t || decide (d > 200) || decide ((kids.length : Int) > 3)) with
  | true =>
    simp only [cond_true]
    constructor
    · intro h; cases h
    · rintro ⟨h1, h2, h3, -⟩
      simp only [h1, Bool.not_true, Bool.false_or, Bool.or_eq_true, decide_eq_true_eq] at h
      omega
  | false =>
    simp only [Bool.or_eq_false_iff, Bool.not_eq_false', decide_eq_false_iff_not] at h
    obtain ⟨⟨h1, h2⟩, h3⟩ := h
    simp only [cond_false]
    cases hl : tysF (d + 1) kids with
    | none =>
      constructor
      · intro h; cases h
      · rintro ⟨-, -, -, l, h, -⟩; cases h
    | some l =>
      constructor
      · intro h; exact ⟨h1, by omega, by omega, l, rfl, h⟩
      · rintro ⟨-, -, -, l', h, h'⟩; cases h; exact h'
theorem tys_mem : ∀ {kids : List Co} {d : Int} {l : List Int}, tysF d kids = some l → ∀ c ∈ kids, (typF d c).2 = true
  | [], _, _, _ => by simp
  | c :: r, d, l, h => by
    rw [tysF] at h
    cases hc : (typF d c).2 with
    | false => rw [hc] at h; cases h
    | true =>
      rw [hc] at h
      cases hr : tysF d r with
      | none => rw [hr] at h; cases h
      | some q =>
        intro x hx
        rcases List.mem_cons.1 hx with e | e
        · rw [e]; exact hc
        · exact tys_mem hr x e
theorem typ_kids {d op k : Int} {t : List UInt8} {kids : List Co} (h : (typF d (.mk op k t kids)).2 = true) : ownC op k t = true ∧ d ≤ 200 ∧ ∀ c ∈ kids, (typF (d + 1) c).2 = true := by
  cases hc : typF d (.mk op k t kids) with
  | mk z b =>
  rw [hc] at h
  have hb : b = true := h
  subst hb
  obtain ⟨h1, h2, -, l, hl, -⟩ := typ_parts.1 hc
  exact ⟨h1, h2, tys_mem hl⟩
end Go.Proofs.YthnojedlndblbabGreatDoor
namespace Go.Proofs.YthnojedlndblbabGreatDoor
open Go Go.RowKit

def TP (c : Co) : Prop := ∀ d : Int, (∀ z, tyOk z → (okT z d c = true ↔ typF d c = (z, true))) ∧ ((typF d c).2 = true → tyOk (typF d c).1)
theorem tys_ok : ∀ (kids : List Co), (∀ c ∈ kids, TP c) → ∀ (d : Int) (l : List Int), (tysF d kids = some l ↔ l.length = kids.length ∧ (∀ z ∈ l, tyOk z) ∧ okTs d l kids = true)
  | [], _, d, l => by
    rw [tysF]
    unfold okTs
    constructor
    · rintro ⟨⟩; simp
    · rintro ⟨h, -⟩; rw [List.eq_nil_of_length_eq_zero h]
  | c :: r, ih, d, l => by
    obtain ⟨h1, h2⟩ := ih c (by simp) d
    have h3 := tys_ok r (fun c hc => ih c (by simp [hc])) d
    rw [tysF]
    cases hc : typF d c with
    | mk z b =>
    rw [hc] at h2
    cases b with
    | false =>
      simp only [cond_false]
      constructor
      · intro h; cases h
      · rintro ⟨e, ht, ho⟩
        cases l with
        | nil => cases e
        | cons x xs =>
          unfold okTs at ho
          simp only [Bool.and_eq_true] at ho
          have := (h1 x (ht x (by simp))).1 ho.1
          rw [hc] at this
          cases this
    | true =>
      simp only [cond_true]
      have hz := h2 rfl
      cases hr : tysF d r with
      | none =>
        constructor
        · intro h; cases h
        · rintro ⟨e, ht, ho⟩
          cases l with
          | nil => cases e
          | cons x xs =>
            unfold okTs at ho
            simp only [Bool.and_eq_true] at ho
            have := (h3 xs).2 ⟨by simpa using e, fun z hz => ht z (by simp [hz]), ho.2⟩
            rw [hr] at this
            cases this
      | some q =>
        have hq := (h3 q).1 hr
        constructor
        · intro h
          simp only [Option.map_some, Option.some.injEq] at h
          subst h
          refine ⟨by simp [hq.1], fun y hy => ?_, ?_⟩
          · rcases List.mem_cons.1 hy with e | e
            · rw [e]; exact hz
            · exact hq.2.1 y e
          · unfold okTs
            show (okT z d c && okTs d q r) = true
            rw [(h1 z hz).2 hc, hq.2.2]
            rfl
        · rintro ⟨e, ht, ho⟩
          cases l with
          | nil => cases e
          | cons x xs =>
            unfold okTs at ho
            simp only [Bool.and_eq_true] at ho
            have e1 := (h1 x (ht x (by simp))).1 ho.1
            rw [hc] at e1
            cases e1
            have e2 := (h3 xs).2 ⟨by simpa using e, fun z hz => ht z (by simp [hz]), ho.2⟩
            rw [hr] at e2
            cases e2
            rfl
theorem tp_all (c : Co) : TP c := by
  induction c using Co.ind with
  | h op k t kids ih =>
    intro d
    have hk := tys_ok kids ih (d + 1)
    refine ⟨fun z hz => ?_, fun h => ?_⟩
    · rw [typ_parts]
      constructor
      · intro ho
        unfold okT at ho
        cases hko : kOf op z with
        | none => rw [hko] at ho; cases ho
        | some ks =>
          rw [hko] at ho
          simp only [Bool.and_eq_true, beq_iff_eq, decide_eq_true_eq] at ho
          obtain ⟨⟨⟨h1, h2⟩, h3⟩, h4⟩ := ho
          have hl3 := kOf_len op z ks hko
          refine ⟨h2, h3, by omega, ks, (hk ks).2 ⟨by omega, kOf_ty hz ks hko, h4⟩, ?_⟩
          unfold endF
          cases h22 : (op == 22) with
          | true =>
            have e := eq_of_beq h22
            subst e
            rw [k22] at hko
            cases hz4 : (z == 4) with
            | true => rw [hz4] at hko; cases hko
            | false =>
              rw [hz4] at hko
              cases hko
              have : (z != 4) = true := by simp only [bne, hz4, Bool.not_false]
              simp only [cond_true, lastZ, ifF, beq_self_eq_true, Bool.true_and, this]
          | false =>
            rw [rk_op hz h22] at hko
            cases hr : rkP op with
            | none => rw [hr] at hko; cases hko
            | some q =>
              obtain ⟨ks', t'⟩ := q
              rw [hr] at hko
              simp only at hko
              cases ht' : (t' == z) with
              | false => rw [ht'] at hko; cases hko
              | true =>
                rw [ht'] at hko
                cases hko
                have := eq_of_beq ht'
                subst this
                simp
      · rintro ⟨h1, h2, h3, l, hl, he⟩
        obtain ⟨e1, e2, e3⟩ := (hk l).1 hl
        have fin : kOf op z = some l → okT z d (.mk op k t kids) = true := by
          intro hko
          unfold okT
          rw [hko]
          simp only [h1, e3, Bool.and_true, Bool.and_eq_true, beq_iff_eq, decide_eq_true_eq]
          exact ⟨by omega, h2⟩
        unfold endF at he
        cases h22 : (op == 22) with
        | true =>
          rw [h22, cond_true] at he
          simp only [Prod.mk.injEq] at he
          obtain ⟨y, rfl, hy⟩ := if_shape he.2
          have hyz : y = z := he.1
          subst hyz
          have e := eq_of_beq h22
          subst e
          refine fin ?_
          rw [k22]
          have : (y == 4) = false := by simpa using hy
          rw [this]
          rfl
        | false =>
          rw [h22, cond_false] at he
          refine fin ?_
          rw [rk_op hz h22]
          cases hr : rkP op with
          | none => rw [hr] at he; cases he
          | some q =>
            obtain ⟨ks', t'⟩ := q
            rw [hr] at he
            simp only at he
            cases hlen : ((ks'.length : Int) != (l.length : Int)) with
            | true => rw [hlen] at he; cases he
            | false =>
              rw [hlen, cond_false] at he
              cases hq : (ks' == l) with
              | false => rw [hq] at he; cases he
              | true =>
                rw [hq] at he
                cases he
                have := eq_of_beq hq
                subst this
                simp
    · cases hc : typF d (.mk op k t kids) with
      | mk z b =>
      rw [hc] at h
      have hb : b = true := h
      subst hb
      obtain ⟨-, -, -, l, hl, he⟩ := typ_parts.1 hc
      obtain ⟨e1, e2, e3⟩ := (hk l).1 hl
      unfold endF at he
      cases h22 : (op == 22) with
      | true =>
        rw [h22, cond_true] at he
        simp only [Prod.mk.injEq] at he
        obtain ⟨y, rfl, hy⟩ := if_shape he.2
        have hyz : y = z := he.1
        subst hyz
        exact e2 y (by simp)
      | false =>
        rw [h22, cond_false] at he
        cases hr : rkP op with
        | none => rw [hr] at he; cases he
        | some q =>
          obtain ⟨ks', t'⟩ := q
          rw [hr] at he
          simp only at he
          cases hlen : ((ks'.length : Int) != (l.length : Int)) with
          | true => rw [hlen] at he; cases he
          | false =>
            rw [hlen, cond_false] at he
            cases hq : (ks' == l) with
            | false => rw [hq] at he; cases he
            | true =>
              rw [hq] at he
              cases he
              exact rk_tyOk hr
def LP (c : Co) : Prop := ∀ (d m : Int), (typF d c).2 = true → 0 ≤ m → (szC c ≤ m → lefF m d c = m - szC c) ∧ (m < szC c → lefF m d c < 0)
theorem lef_row : ∀ (l : List Co), (∀ c ∈ l, LP c) → ∀ (d m : Int), (∀ c ∈ l, (typF d c).2 = true) → -1 ≤ m → (szL l ≤ m → lefL m d l = m - szL l) ∧ (m < szL l → lefL m d l < 0)
  | [], _, d, m, _, hm => by rw [lefL, szL]; omega
  | c :: r, ih, d, m, hk, hm => by
    have hp := szC_pos c
    have hq := szL_pos r
    rw [lefL, szL]
    cases hd : decide (m ≥ 0) with
    | false =>
      have := of_decide_eq_false hd
      simp only [cond_false]
      omega
    | true =>
      have hm0 := of_decide_eq_true hd
      obtain ⟨h1, h2⟩ := ih c (by simp) d m (hk c (by simp)) hm0
      have hlow := lef_low c m d hm0
      have h3 := lef_row r (fun c hc => ih c (by simp [hc])) d (lefF m d c) (fun c hc => hk c (by simp [hc])) hlow.1
      have h4 := lef_lowL r (lefF m d c) d hlow.1
      simp only [cond_true]
      by_cases hs : szC c ≤ m
      · rw [h1 hs] at h3 ⊢
        omega
      · have := h2 (by omega)
        omega
theorem lef_all (c : Co) : LP c := by
  induction c using Co.ind with
  | h op k t kids ih =>
    intro d m ht hm
    obtain ⟨-, hd, hk⟩ := typ_kids ht
    have h := lef_row kids ih (d + 1) (m - 1) hk (by omega)
    rw [lefF, szC, decide_eq_false (by omega), cond_false]
    omega
def rtyP (c : Co) : Int × Bool := bif smaP c then (bif (typF 1 c).2 then ((typF 1 c).1, true) else (0, false)) else (0, false)
theorem rty_eq (c : Co) : rtyP c = typP c := by
  obtain ⟨h1, h2⟩ := tp_all c 1
  have no : (∀ z, tyOk z → isOfP z c = false) → typP c = (0, false) := by
    intro h
    unfold typP
    rw [h 0 (.inl rfl), h 1 (.inr (.inl rfl)), h 2 (.inr (.inr (.inl rfl))), h 4 (.inr (.inr (.inr rfl)))]
    rfl
  cases hc : typF 1 c with
  | mk z b =>
  rw [hc] at h1 h2
  cases b with
  | false =>
    have : typP c = (0, false) := no fun x hx => by
      cases hi : isOfP x c with
      | false => rfl
      | true =>
        have := (h1 x hx).1 ((isOfP_eq x c).1 hi).1
        cases this
    rw [this]
    unfold rtyP
    rw [hc]
    cases smaP c <;> rfl
  | true =>
    have hz := h2 rfl
    have hl := lef_all c 1 2000 (by rw [hc]) (by omega)
    have hs : smaP c = decide (szC c ≤ 2000) := by
      unfold smaP
      by_cases h : szC c ≤ 2000
      · rw [hl.1 h, decide_eq_true h, decide_eq_true (by omega)]
      · rw [decide_eq_false h, decide_eq_false (by have := hl.2 (by omega); omega)]
    unfold rtyP
    rw [hs, hc]
    by_cases h : szC c ≤ 2000
    · have hi : ∀ x, tyOk x → isOfP x c = (x == z) := by
        intro x hx
        rw [Bool.eq_iff_iff, isOfP_eq, h1 x hx, beq_iff_eq]
        simp only [Prod.mk.injEq, and_true]
        exact ⟨fun h => h.1.symm, fun e => ⟨e.symm, h⟩⟩
      rw [decide_eq_true h]
      unfold typP
      rw [hi 0 (.inl rfl), hi 1 (.inr (.inl rfl)), hi 2 (.inr (.inr (.inl rfl))), hi 4 (.inr (.inr (.inr rfl)))]
      rcases hz with e | e | e | e <;> (have e' : z = _ := e; subst e'; rfl)
    · rw [decide_eq_false h]
      exact (no fun x hx => by
        cases hi : isOfP x c with
        | false => rfl
        | true => exact absurd ((isOfP_eq x c).1 hi).2 h).symm
theorem typ_right {c : Co} (h : (typP c).2 = true) : (typF 1 c).2 = true ∧ szC c ≤ 2000 := by
  obtain ⟨want, -, hi⟩ := typ_ex h
  refine ⟨?_, ((isOfP_eq want c).1 hi).2⟩
  rw [← rty_eq] at h
  unfold rtyP at h
  cases hs : smaP c with
  | false => rw [hs] at h; cases h
  | true =>
    rw [hs, cond_true] at h
    cases hc : (typF 1 c).2 with
    | true => rfl
    | false => rw [hc] at h; cases h
/-- What is checked is the same. -/
theorem chk_eq (c : Co) : chkP c = bif !(typP c).2 || (typP c).1 != 4 then 140 else bif ahC c then 141 else 0 := by
  cases h4 : isOfP 4 c with
  | true =>
    rw [chk_yes h4]
    obtain ⟨h1, h2⟩ := tp_all c 1
    have h5 := (h1 4 (.inr (.inr (.inr rfl)))).1 ((isOfP_eq 4 c).1 h4).1
    have h6 := typ4 h4
    have h7 : typP c = (4, true) := by
      rw [← rty_eq] at h6 ⊢
      unfold rtyP at h6 ⊢
      rw [h5] at h6 ⊢
      cases hs : smaP c with
      | false => rw [hs] at h6; cases h6
      | true => rfl
    rw [h7]
    rfl
  | false =>
    rw [chk_no h4]
    unfold typP
    cases isOfP 0 c with
    | true => rfl
    | false =>
      cases isOfP 1 c with
      | true => rfl
      | false =>
        cases isOfP 2 c with
        | true => rfl
        | false => rw [h4]; rfl
theorem max_eq (a b : Int) : (if a > b then a else b) = max b a := by
  rw [Int.max_def]
  split <;> split <;> omega
theorem hr_row : ∀ (l : List Co), (∀ c ∈ l, hrF c = hzC c) → ∀ n : Int, 0 ≤ n → hrL n l = max n (hzL l)
  | [], _, n, hn => by rw [hrL, hzL]; omega
  | c :: r, h, n, hn => by
    rw [hrL, hzL, max_eq, hr_row r (fun c hc => h c (by simp [hc])) _ (by omega), h c (by simp)]
    omega
theorem hr_all (c : Co) : ∀ d, (typF d c).2 = true → hrF c = hzC c := by
  induction c using Co.ind with
  | h op k t kids ih =>
    intro d ht
    obtain ⟨ho, hd, hk⟩ := typ_kids ht
    rw [hrF, hzC]
    refine hr_row kids (fun c hc => ih c hc (d + 1) (hk c hc)) _ ?_
    cases hdt : dateP op with
    | false => simp
    | true =>
      simp only [cond_true]
      unfold ownC ownN at ho
      have h1 : (op == 1) = false := by
        rw [beq_eq_false_iff_ne]; rintro rfl; revert hdt; decide
      have h2 : (op == 2) = false := by
        rw [beq_eq_false_iff_ne]; rintro rfl; revert hdt; decide
      rw [h1, h2, hdt, Bool.or_true] at ho
      simp only [cond_false, cond_true, Bool.and_eq_true, inW, decide_eq_true_eq] at ho
      omega
end Go.Proofs.YthnojedlndblbabGreatDoor
namespace Go.Proofs.YthnojedlndblbabGreatDoor
open Go Go.RowKit

/-- A row of texts in a block: what lies behind it there is no matter. -/
def sO (l : List (List UInt8)) (r : List Value) : Obj := .cells (l.map strV ++ r).toArray 9 (0, 0)
/-- The value v is the row of texts l, in a block of its own from base on. -/
def Rws (base : Nat) (w : World) (v : Value) (l : List (List UInt8)) : Prop := w.ownsRow base 9 1 v l.length (l.map strV)
theorem Rws.nil {base : Nat} {w : World} : Rws base w (.slice none 0 0) [] := ⟨by simp, .inl ⟨rfl, rfl⟩⟩
theorem Rws.form {base : Nat} {w : World} {v : Value} {l : List (List UInt8)} (h : Rws base w v l) : (v = .slice none 0 0 ∧ l = []) ∨ ∃ b cap r, v = .slice (some ⟨b, 0, none⟩) l.length cap ∧ base ≤ b ∧ w.heap[b]? = some (sO l r) ∧ l.length ≤ cap ∧ cap ≤ maxLen := by
  rcases h.2 with ⟨h1, h2⟩ | ⟨b, cap, cur, h1, hb, hcur, hle, hmax, hsz, htake⟩
  · exact .inl ⟨h1, List.eq_nil_of_length_eq_zero h2⟩
  · refine .inr ⟨b, cap, cur.toList.drop l.length, h1, hb, ?_, hle, hmax⟩
    rw [hcur]
    unfold sO
    rw [Nat.mul_one] at htake
    rw [← htake, List.take_append_drop]
theorem Rws.below {base n : Nat} {w w' : World} {v : Value} {l : List (List UInt8)} (h : Rws base w v l) (hB : Below n w w') (hn : w.heap.size ≤ n) : Rws base w' v l := by
  refine ⟨h.1, ?_⟩
  rcases h.2 with h | ⟨b, cap, cur, h1, hb, hcur, h2⟩
  · exact .inl h
  · exact .inr ⟨b, cap, cur, h1, hb, (hB.block b (Nat.lt_of_lt_of_le (lt_of_get hcur) hn)).trans hcur, h2⟩
theorem Rws.more {base base' : Nat} {w : World} {v : Value} {l : List (List UInt8)} (h : Rws base w v l) (hb : base' ≤ base) : Rws base' w v l := by
  refine ⟨h.1, ?_⟩
  rcases h.2 with h | ⟨b, cap, cur, h1, h0, h2⟩
  · exact .inl h
  · exact .inr ⟨b, cap, cur, h1, by omega, h2⟩
theorem cellS {w : World} {b i : Nat} {l : List (List UInt8)} {r : List Value} {s : List UInt8} (hb : w.heap[b]? = some (sO l r)) (hi : l[i]? = some s) : w.cell? ⟨b, i, none⟩ = some (strV s) := by
  unfold World.cell?
  rw [hb]
  obtain ⟨hl, he⟩ := List.getElem?_eq_some_iff.1 hi
  simp [sO, List.getElem?_append_left, hl, he]
theorem loadS {w : World} {b i : Nat} {l : List (List UInt8)} {r : List Value} {s : List UInt8} (hb : w.heap[b]? = some (sO l r)) (hi : l[i]? = some s) : (Instr.loadAt 9 (.pointer (some ⟨b, i, none⟩))).run Tryz.prog w = .ok (strV s) w :=
  load1 Tryz.isAgg9 (cellS hb hi)
theorem idxS (b n cap k : Nat) (h : k < n) (w : World) : (Instr.indexAt 47 (.slice (some ⟨b, 0, none⟩) n cap) (.int .i64 k)).run Tryz.prog w = .ok (.pointer (some ⟨b, k, none⟩)) w := by go_simp
theorem cutS (b n cap k : Nat) (h : k ≤ n) (hn : n ≤ cap) (w : World) : (Instr.sliceAt 47 (.slice (some ⟨b, 0, none⟩) n cap) none (some (.int .i64 k)) none).run Tryz.prog w = .ok (.slice (some ⟨b, 0, none⟩) k cap) w := by
  have h1 : (k : Int) ≤ (cap : Int) := by omega
  go_simp
theorem restS (g m c n : Nat) (hn : n ≤ m) (hm : m ≤ c) (w : World) : (Instr.sliceAt 47 (.slice (some ⟨g, 0, none⟩) m c) (some (.int .i64 n)) none none).run Tryz.prog w = .ok (.slice (if c = n then some ⟨g, 0, none⟩ else some ⟨g, n, none⟩) (m - n) (c - n)) w := by
  have h1 : (n : Int) ≤ (m : Int) := by omega
  have h2 : (m : Int) ≤ (c : Int) := by omega
  go_simp
theorem nilS (w : World) : (Instr.sliceAt 47 (.slice none 0 0) none (some (.int .i64 0)) none).run Tryz.prog w = .ok (.slice none 0 0) w ∧ (Instr.sliceAt 47 (.slice none 0 0) (some (.int .i64 0)) none none).run Tryz.prog w = .ok (.slice none 0 0) w := by constructor <;> go_simp
theorem appNilS (b n cap : Nat) (ty : TypeId) (hn : n ≤ cap) (w : World) : (Builtin.append_ #[47, 47] ty #[.slice (some ⟨b, 0, none⟩) n cap, .slice none 0 0]).run Tryz.prog w = .ok (.slice (some ⟨b, 0, none⟩) n cap) w := by
  go_simp
theorem lssT (a b : List UInt8) (w : World) : (binOp .lss 9 (strV a) (strV b)).run Tryz.prog w = .ok (.bool (decide (a < b))) w := by
  unfold strV
  rw [binOp_string_lss, Go.Proofs.bytesLess_eq, Lib.toList_data, Lib.toList_data]
  rfl
theorem infoS : (Tryz.prog.info? 9).map (fun i => (i.zero, i.size, i.bytes)) = some (some (strV []), 1, 16) := by kernel_rfl
/-- A row is made, with nothing in it and room for n. -/
theorem makeS0 (w : World) (n : Nat) (hn : n ≤ 1000001) : ∃ w1 g, (Instr.makeSlice 47 (.int .i64 0) (.int .i64 ((n : Nat) : Int))).run Tryz.prog w = .ok (.slice (some ⟨g, 0, none⟩) 0 n) w1 ∧ Rws w.heap.size w1 (.slice (some ⟨g, 0, none⟩) 0 n) [] ∧ Below w.heap.size w w1 ∧ w.heap.size ≤ g ∧ g < w1.heap.size := by
  cases hie : Tryz.prog.info? 9 with
  | none => have := infoS; rw [hie] at this; cases this
  | some i0 =>
    have hi := infoS
    rw [hie] at hi
    simp only [Option.map_some, Option.some.injEq, Prod.mk.injEq] at hi
    obtain ⟨hz0, hz1, hz2⟩ := hi
    have hr := run_make (P := Tryz.prog) w 47 9 i0 (strV []) Tryz.underlying47 hie hz0 .i64 .i64 0 n (by omega) (by omega) (by rw [hz2]; omega) (by omega)
    rw [Int.toNat_natCast, hz1] at hr
    refine ⟨_, _, hr, ⟨rfl, .inr ⟨_, n, _, rfl, Nat.le_refl _, heap_alloc_last w _, by simp, by unfold maxLen; omega, by rw [size_madeCells], by simp⟩⟩, (Below.refl _ _).alloc (Nat.le_refl _) _, Nat.le_refl _, lt_of_get (heap_alloc_last w _)⟩
section
variable {P : Program} {F : Exit → Act → World → Prop} {Inv : World → Prop} {s : St}
/-- What an append of cells that are known does. -/
theorem append_coreA {base : Nat} {t e ty : TypeId} {size bytes : Nat} {v : Value} {n : Nat} {xs : List Value} {a : Addr} {m c : Nat} {news : List Value} {w : World}
    (hown : w.ownsRow base e size v n xs) (hbase : base ≤ w.heap.size) (hl : news.length = m * size) (hnews : ∀ j u, news[j]? = some u → w.cell? (a.add j) = some u) (h1 : ∀ u ∈ news, u.oneCell' = true) (hm0 : v ≠ .slice none 0 0 ∨ 0 < m) (h63 : n + m ≤ maxLen) (hbytes : (n + m) * bytes ≤ 140737488355328)
    (hel : elOk P t e size bytes = true) : ∃ b c' w', (Builtin.append_ #[t, t] ty #[v, .slice (some a) m c]).run P w = .ok (.slice (some ⟨b, 0, none⟩) (n + m) c') w' ∧ w'.ownsRow base e size (.slice (some ⟨b, 0, none⟩) (n + m) c') (n + m) (xs ++ news) ∧ w.grownBy w' v.ownBlock ∧ ((Value.slice (some ⟨b, 0, none⟩) (n + m) c').ownBlock = v.ownBlock ∨ (Value.slice (some ⟨b, 0, none⟩) (n + m) c').ownBlock = some w.heap.size) := by
  unfold elOk at hel
  simp only [Bool.and_eq_true, decide_eq_true_eq] at hel
  obtain ⟨⟨hu, hi⟩, hsz⟩ := hel
  cases hu1 : P.underlying t with
  | none => rw [hu1] at hu; cases hu
  | some d =>
    rw [hu1] at hu
    obtain rfl : d = .slice e := by
      cases d <;> simp at hu
      rw [hu]
    cases hi1 : P.info? e with
    | none => rw [hi1] at hi; cases hi
    | some i =>
      rw [hi1] at hi
      simp only [Bool.and_eq_true, beq_iff_eq] at hi
      cases hz1 : i.zero with
      | none => rw [hz1] at hi; simp at hi
      | some z0 =>
        rw [hz1] at hi
        obtain ⟨v', w', hrun, hown', hgr, hnil, hob⟩ := run_append_own_at (P := P) (w := w) base t ty e i z0 size bytes hu1 hi1 hz1 hi.1.1 hi.1.2 (eq_of_beq hi.2) hsz v n xs hown a m c news hl hnews h1 h63 hbytes hbase
        obtain ⟨b, c', rfl⟩ : ∃ b c', v' = .slice (some ⟨b, 0, none⟩) (n + m) c' := by
          rcases hown'.2 with ⟨h0, -⟩ | ⟨g, cap, cur, e, -⟩
          · obtain ⟨h2, h3⟩ := hnil.1 h0
            rcases hm0 with h4 | h4
            · exact absurd h2 h4
            · omega
          · exact ⟨_, _, e⟩
        exact ⟨b, c', w', hrun, hown', hgr, hob⟩
/-- A row of one's own grows by cells that are known. -/
theorem Goes.appendA {I0 : World → Prop} (base : Nat) (t e ty : TypeId) (size bytes : Nat) (v : Value) (n : Nat) (xs : List Value) (a : Addr) (m c : Nat) (news : List Value)
    (hI : ∀ w, Inv w → I0 w ∧ w.ownsRow base e size v n xs ∧ base ≤ w.heap.size) (hst : ∀ w w', I0 w → Below base w w' → I0 w') (hl : news.length = m * size) (hnews : ∀ w, Holds s.mem w → ∀ j u, news[j]? = some u → w.cell? (a.add j) = some u) (h1 : ∀ u ∈ news, u.oneCell' = true) (hm0 : v ≠ .slice none 0 0 ∨ 0 < m) (h63 : n + m ≤ maxLen) (hbytes : (n + m) * bytes ≤ 140737488355328)
    (h : ∀ b c', Goes P F (fun w => I0 w ∧ w.ownsRow base e size (.slice (some ⟨b, 0, none⟩) (n + m) c') (n + m) (xs ++ news)) (put0 s (.slice (some ⟨b, 0, none⟩) (n + m) c')))
    (ho : (nextOp s).map (fun q => execOp (evalL s.tmps) q.2.1) = some (vS (Builtin.append_ #[t, t] ty #[v, .slice (some a) m c])) := by kernel_rfl) (hw : wants s = true := by kernel_rfl) (hel : elOk P t e size bytes = true := by kernel_rfl) : Goes P F Inv s := by
  refine Goes.eff (Builtin.append_ #[t, t] ty #[v, .slice (some a) m c]) (ho := ho) (hw := hw) fun w hm hn hS => ?_
  obtain ⟨-, hown, hbase⟩ := hI w hS.now
  obtain ⟨b, c', w', hrun, hown', hgr, hob⟩ := append_coreA (P := P) (ty := ty) (c := c) hown hbase hl (hnews w hm) h1 hm0 h63 hbytes hel
  obtain ⟨h3, h4⟩ := append_stay hm (hS.mono fun w h => ⟨(hI w h).1, (hI w h).2.1⟩) hst hown' hgr hob
  exact ⟨_, w', _, s.mem, hrun, h3, hn, h4, h b c'⟩
end
end Go.Proofs.YthnojedlndblbabGreatDoor
