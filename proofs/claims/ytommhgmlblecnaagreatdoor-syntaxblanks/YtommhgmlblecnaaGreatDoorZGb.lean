/- texts put together: ZScan1 ZScan2 ZScan3 ZScan4 ZScan5 ZScan6 ZScan7 -/
import Derived.Test.YtommhgmlblecnaaGreatDoorYGe
import Derived.Test.YtommhgmlblecnaaGreatDoorYGb
import Derived.Test.YtommhgmlblecnaaGreatDoorYGf
import Derived.Test.YtommhgmlblecnaaGreatDoorZGa
namespace Go.Proofs.YtommhgmlblecnaaGreatDoor
open Go Go.RowKit

set_option maxRecDepth 100000 in
set_option maxHeartbeats 1000000 in
seal rn Goes ans atEnd put0 putM opened putA0 oneSt st0 keep putA in
theorem zsmall_any : Srt 48 cLet := by
  intro z w
  refine Goes.begin Tryz.func48 [] (fun _ => True) (fun j b o h => by cases h) (by simp [Mem.ids]) (fun _ _ => trivial) ?_
  cases h : decide ((97 : Int) ≤ z) with
  | true =>
    refine Goes.run [1] [(decide ((97 : Int) ≤ z), true)] ⟨h, trivial⟩ ?_
    exact Goes.ret [] (.bool (decide (z ≤ 122))) fun w' hm hI => ⟨by simp only [cLet, h, Bool.true_and], below_end (m := []) (fun j b o h => by cases h) hI.now.1 hm (by kernel_rfl)⟩
  | false =>
    refine Goes.run [0] [(decide ((97 : Int) ≤ z), false)] ⟨h, trivial⟩ ?_
    exact Goes.ret [] (.bool false) fun w' hm hI => ⟨by simp only [cLet, h, Bool.false_and], below_end (m := []) (fun j b o h => by cases h) hI.now.1 hm (by kernel_rfl)⟩
set_option maxRecDepth 100000 in
set_option maxHeartbeats 1000000 in
seal rn Goes ans atEnd put0 putM opened putA0 oneSt st0 keep putA in
theorem zdigit_any : Srt 50 cDig := by
  intro z w
  refine Goes.begin Tryz.func50 [] (fun _ => True) (fun j b o h => by cases h) (by simp [Mem.ids]) (fun _ _ => trivial) ?_
  cases h : decide ((48 : Int) ≤ z) with
  | true =>
    refine Goes.run [1] [(decide ((48 : Int) ≤ z), true)] ⟨h, trivial⟩ ?_
    exact Goes.ret [] (.bool (decide (z ≤ 57))) fun w' hm hI => ⟨by simp only [cDig, h, Bool.true_and], below_end (m := []) (fun j b o h => by cases h) hI.now.1 hm (by kernel_rfl)⟩
  | false =>
    refine Goes.run [0] [(decide ((48 : Int) ≤ z), false)] ⟨h, trivial⟩ ?_
    exact Goes.ret [] (.bool false) fun w' hm hI => ⟨by simp only [cDig, h, Bool.false_and], below_end (m := []) (fun j b o h => by cases h) hI.now.1 hm (by kernel_rfl)⟩
set_option maxRecDepth 100000 in
set_option maxHeartbeats 1000000 in
seal rn Goes ans atEnd put0 putM opened putA0 oneSt st0 keep putA in
theorem zgreat_any : Srt 53 cCap := by
  intro z w
  refine Goes.begin Tryz.func53 [] (fun _ => True) (fun j b o h => by cases h) (by simp [Mem.ids]) (fun _ _ => trivial) ?_
  cases h : decide ((65 : Int) ≤ z) with
  | true =>
    refine Goes.run [1] [(decide ((65 : Int) ≤ z), true)] ⟨h, trivial⟩ ?_
    exact Goes.ret [] (.bool (decide (z ≤ 90))) fun w' hm hI => ⟨by simp only [cCap, h, Bool.true_and], below_end (m := []) (fun j b o h => by cases h) hI.now.1 hm (by kernel_rfl)⟩
  | false =>
    refine Goes.run [0] [(decide ((65 : Int) ≤ z), false)] ⟨h, trivial⟩ ?_
    exact Goes.ret [] (.bool false) fun w' hm hI => ⟨by simp only [cCap, h, Bool.false_and], below_end (m := []) (fun j b o h => by cases h) hI.now.1 hm (by kernel_rfl)⟩
set_option maxRecDepth 100000 in
set_option maxHeartbeats 1000000 in
seal rn Goes ans atEnd put0 putM opened putA0 oneSt st0 keep putA in
theorem zinner_any : Srt 113 cIn := by
  intro z w
  refine Goes.begin Tryz.func113 [] (fun _ => True) (fun j b o h => by cases h) (by simp [Mem.ids]) (fun _ _ => trivial) ?_
  refine Goes.run [] [] trivial ?_
  refine Goes.call0 48 #[.int .u8 z] (.bool (cLet z)) (fun w' _ _ => zsmall_any z w') ?_
  cases h : cLet z with
  | true =>
    refine Goes.run [1, 1] [(true, true), (true, true)] ⟨rfl, rfl, trivial⟩ ?_
    exact Goes.ret [] (.bool true) fun w' hm hI => ⟨by simp only [cIn, h, Bool.true_or], below_end (m := []) (fun j b o h => by cases h) hI.now.1 hm (by kernel_rfl)⟩
  | false =>
    refine Goes.run [0] [(false, false)] ⟨rfl, trivial⟩ ?_
    refine Goes.call0 50 #[.int .u8 z] (.bool (cDig z)) (fun w' _ _ => zdigit_any z w') ?_
    cases h2 : cDig z with
    | true =>
      refine Goes.run [1] [(true, true)] ⟨rfl, trivial⟩ ?_
      exact Goes.ret [] (.bool true) fun w' hm hI => ⟨by simp only [cIn, h, h2, Bool.false_or, Bool.true_or], below_end (m := []) (fun j b o h => by cases h) hI.now.1 hm (by kernel_rfl)⟩
    | false =>
      refine Goes.run [0] [(false, false)] ⟨rfl, trivial⟩ ?_
      exact Goes.ret [] (.bool (z == 95)) fun w' hm hI => ⟨by simp only [cIn, h, h2, Bool.false_or], below_end (m := []) (fun j b o h => by cases h) hI.now.1 hm (by kernel_rfl)⟩
theorem wrap_add {a b : Nat} (h : a + b ≤ 9223372036854775807) : IntKind.i64.wrap ((a : Int) + (b : Int)) = ((a + b : Nat) : Int) := by rw [IntWalk.i64_in _ ⟨by omega, by omega⟩]; omega
/-- How many of a name's bytes stand at a place. -/
def spN (l : List UInt8) (i : Nat) : Nat := bif decide (i < l.length) && cLet ((l.getD i 0).toNat : Nat) then bhd cIn l i - i else 0
set_option maxRecDepth 100000 in
set_option maxHeartbeats 1000000 in
seal rn Goes ans atEnd put0 putM opened putA0 oneSt st0 keep putA in
theorem zspan_any (l : List UInt8) (i : Nat) (w : World) (hl : l.length ≤ 1000000000) (hi : i ≤ 1000000000) : Calls Tryz.prog 78 #[strV l, .int .i64 i] w fun e w' => e = .returned (.int .i64 (spN l i)) ∧ Below w.heap.size w w' := by
  refine Goes.begin Tryz.func78 [] (fun _ => True) (fun j b o h => by cases h) (by simp [Mem.ids]) (fun _ _ => trivial) ?_
  cases h0 : decide ((i : Int) ≥ (l.length : Int)) with
  | true =>
    refine Goes.run [1] [(decide ((i : Int) ≥ (l.length : Int)), true)] ⟨h0, trivial⟩ ?_
    have : spN l i = 0 := by unfold spN; rw [decide_eq_false (by have := of_decide_eq_true h0; omega)]; rfl
    exact Goes.ret [] (.int .i64 0) fun w' hm hI => ⟨by rw [this]; rfl, below_end (m := []) (fun j b o h => by cases h) hI.now.1 hm (by kernel_rfl)⟩
  | false =>
    have hil : i < l.length := by have := of_decide_eq_false h0; omega
    obtain ⟨x, hx⟩ : ∃ x, l[i]? = some x := ⟨l[i], by simp⟩
    have hx' : l.getD i 0 = x := by simp [List.getD, hx]
    refine Goes.run [0] [(decide ((i : Int) ≥ (l.length : Int)), false)] ⟨h0, trivial⟩ ?_
    refine Goes.val (Instr.index 9 (strV l) (.int .i64 i)) (.int .u8 (x.toNat : Nat)) (fun w' _ _ => idxB hx w') ?_
    refine Goes.call0 48 #[.int .u8 (x.toNat : Nat)] (.bool (cLet (x.toNat : Nat))) (fun w' _ _ => zsmall_any _ w') ?_
    cases h1 : cLet (x.toNat : Nat) with
    | false =>
      refine Goes.run [1] [(true, true)] ⟨rfl, trivial⟩ ?_
      have : spN l i = 0 := by unfold spN; rw [hx', h1, Bool.and_false]; rfl
      exact Goes.ret [] (.int .i64 0) fun w' hm hI => ⟨by rw [this]; rfl, below_end (m := []) (fun j b o h => by cases h) hI.now.1 hm (by kernel_rfl)⟩
    | true =>
      have hs : spN l i = bhd cIn l i - i := by unfold spN; rw [hx', h1, decide_eq_true hil]; rfl
      have h1' : cIn (x.toNat : Nat) = true := by unfold cIn; rw [h1]; rfl
      rw [hs]
      refine Goes.run [0] [(false, false)] ⟨rfl, trivial⟩ ?_
      refine Goes.loop0 (α := Nat) 34 (fun n => [(0, strV l), (1, .int .i64 i), (6, .int .i64 n)]) [] (fun n => i + n ≤ l.length ∧ bhd cIn l (i + n) = bhd cIn l i) (fun n => l.length - n) 1 ⟨hil, (bhd_in hx h1').symm⟩ ?_
      rintro n J ⟨hn, hb⟩ back
      have hw := wrap_add (a := i) (b := n) (by omega)
      cases hlt : decide (IntKind.i64.wrap ((i : Int) + (n : Int)) < (l.length : Int)) with
      | false =>
        have he : i + n = l.length := by have := of_decide_eq_false hlt; rw [hw] at this; omega
        refine Goes.run [0, 0, 0] [(false, false), (decide (IntKind.i64.wrap ((i : Int) + (n : Int)) < (l.length : Int)), false)] ⟨rfl, hlt, trivial⟩ ?_
        refine Goes.ret [] (.int .i64 n) fun w' hm hI => ⟨?_, below_end (m := []) (fun j b o h => by cases h) hI.now.1 hm (by kernel_rfl)⟩
        rw [← hb, bhd_end (by omega)]
        congr 2
        omega
      | true =>
        have hnl : i + n < l.length := by have := of_decide_eq_true hlt; rw [hw] at this; omega
        obtain ⟨y, hy⟩ : ∃ y, l[i + n]? = some y := ⟨l[i + n], by simp⟩
        refine Goes.run [0, 1] [(decide (IntKind.i64.wrap ((i : Int) + (n : Int)) < (l.length : Int)), true)] ⟨hlt, trivial⟩ ?_
        refine Goes.slot 27 (.int .i64 (i + n : Nat)) (u := .int .i64 (IntKind.i64.wrap ((i : Int) + (n : Int)))) (congrArg _ hw) ?_
        refine Goes.val (Instr.index 9 (strV l) (.int .i64 (i + n : Nat))) (.int .u8 (y.toNat : Nat)) (fun w' _ _ => idxB hy w') ?_
        refine Goes.call0 113 #[.int .u8 (y.toNat : Nat)] (.bool (cIn (y.toNat : Nat))) (fun w' _ _ => zinner_any _ w') ?_
        cases hc : cIn (y.toNat : Nat) with
        | false =>
          refine Goes.run [0] [(false, false)] ⟨rfl, trivial⟩ ?_
          refine Goes.ret [] (.int .i64 n) fun w' hm hI => ⟨?_, below_end (m := []) (fun j b o h => by cases h) hI.now.1 hm (by kernel_rfl)⟩
          rw [← hb, bhd_out hy hc]
          congr 2
          omega
        | true =>
          refine Goes.run [1] [(true, true)] ⟨rfl, trivial⟩ ?_
          refine Goes.slot 6 (.int .i64 (n + 1 : Nat)) (u := .int .i64 (IntKind.i64.wrap ((n : Int) + 1))) (congrArg _ (wrap_nat (by omega))) ?_
          exact back (n + 1) _ ⟨hnl, by rw [← hb, bhd_in hy hc]; rfl⟩ (by omega) (by kernel_rfl) (by kernel_rfl) (by kernel_rfl)
theorem spN_all (l : List UInt8) : ((spN l 0 : Int) == (l.length : Int)) = (decide (0 < l.length) && cLet ((l.getD 0 0).toNat : Nat) && ((bhd cIn l 0 : Int) == (l.length : Int)) || decide (l.length = 0)) := by
  unfold spN
  rcases Nat.eq_zero_or_pos l.length with h | h
  · have : l = [] := List.eq_nil_of_length_eq_zero h
    subst this
    rfl
  · rw [decide_eq_true h, decide_eq_false (by omega : ¬ l.length = 0), Bool.true_and, Bool.or_false]
    cases cLet ((l.getD 0 0).toNat : Nat) with
    | true => simp
    | false =>
      rw [Bool.false_and, beq_eq_false_iff_ne]
      simp
      omega
set_option maxRecDepth 100000 in
set_option maxHeartbeats 1000000 in
seal rn Goes ans atEnd put0 putM opened putA0 oneSt st0 keep putA in
theorem zname_any (l : List UInt8) (w : World) (hl : l.length ≤ 1000000000) : Calls Tryz.prog 55 #[strV l] w fun e w' => e = .returned (.bool (nmB l)) ∧ Below w.heap.size w w' := by
  refine Goes.begin Tryz.func55 [] (fun _ => True) (fun j b o h => by cases h) (by simp [Mem.ids]) (fun _ _ => trivial) ?_
  cases h0 : decide ((l.length : Int) > 0) with
  | false =>
    refine Goes.run [0, 0] [(false, false), (decide ((l.length : Int) > 0), false)] ⟨rfl, h0, trivial⟩ ?_
    have : nmB l = false := by unfold nmB; rw [show decide ((0 : Int) < (l.length : Int)) = false from h0]; rfl
    exact Goes.ret [] (.bool false) fun w' hm hI => ⟨by rw [this], below_end (m := []) (fun j b o h => by cases h) hI.now.1 hm (by kernel_rfl)⟩
  | true =>
  cases h1 : decide ((l.length : Int) ≤ 24) with
  | false =>
    refine Goes.run [1, 0] [(decide ((l.length : Int) ≤ 24), false), (decide ((l.length : Int) > 0), true)] ⟨h1, h0, trivial⟩ ?_
    have : nmB l = false := by unfold nmB; rw [h1]; simp
    exact Goes.ret [] (.bool false) fun w' hm hI => ⟨by rw [this], below_end (m := []) (fun j b o h => by cases h) hI.now.1 hm (by kernel_rfl)⟩
  | true =>
    refine Goes.run [1, 1] [(decide ((l.length : Int) ≤ 24), true), (decide ((l.length : Int) > 0), true)] ⟨h1, h0, trivial⟩ ?_
    refine Goes.call0 78 #[strV l, .int .i64 (0 : Nat)] (.int .i64 (spN l 0)) (fun w' _ _ => zspan_any l 0 w' hl (by decide)) ?_
    refine Goes.run [] [] trivial ?_
    have hp : 0 < l.length := by have := of_decide_eq_true h0; omega
    have : nmB l = ((spN l 0 : Int) == (l.length : Int)) := by
      rw [spN_all]
      unfold nmB
      rw [show decide ((0 : Int) < (l.length : Int)) = true from h0, h1, decide_eq_true hp, decide_eq_false (by omega : ¬ l.length = 0)]
      simp
    exact Goes.ret [] (.bool ((spN l 0 : Int) == (l.length : Int))) fun w' hm hI => ⟨by rw [this], below_end (m := []) (fun j b o h => by cases h) hI.now.1 hm (by kernel_rfl)⟩
set_option maxRecDepth 100000 in
set_option maxHeartbeats 1000000 in
seal rn Goes ans atEnd put0 putM opened putA0 oneSt st0 keep putA in
theorem zwords_any (w : World) : Calls Tryz.prog 86 #[] w fun e w' => ∃ g, e = .returned (.slice (some ⟨g, 0, none⟩) kws7.length 13) ∧ Below w.heap.size w w' ∧ w'.heap[g]? = some (strs kws7 (0, 0)) := by
  refine Goes.begin Tryz.func86 [] (fun _ => True) (fun j b o h => by cases h) (by simp [Mem.ids]) (fun _ _ => trivial) ?_
  refine Goes.run1 [] [] trivial fun g => ?_
  exact Goes.ret [] (.slice (some ⟨g, 0, none⟩) kws7.length 13) fun w' hm hI => ⟨g, rfl, below_end (m := []) (fun j b o h => by cases h) hI.now.1 hm (by kernel_rfl), hm.get 0⟩
set_option maxRecDepth 100000 in
set_option maxHeartbeats 1000000 in
seal rn Goes ans atEnd put0 putM opened putA0 oneSt st0 keep putA in
theorem zword_any (x : List UInt8) (w : World) : Calls Tryz.prog 56 #[strV x] w fun e w' => e = .returned (.bool (isKw x)) ∧ Below w.heap.size w w' := by
  refine Goes.begin Tryz.func56 [] (fun _ => True) (fun j b o h => by cases h) (by simp [Mem.ids]) (fun _ _ => trivial) ?_
  refine Goes.run [] [] trivial ?_
  refine Goes.callG [] 86 #[] fun w1 _ _ => (zwords_any w1).mono fun _ w2 ⟨g, e1, hB, hg⟩ => ⟨_, fun w => w.heap[g]? = some (strs kws7 (0, 0)), e1, hB, fun w' hc => (hc.block g (lt_of_get hg) (by simp)).trans hg, ?_⟩
  refine Goes.run [] [] trivial ?_
  refine Goes.loop0 (α := Nat) 18 (fun j => [(0, strV x), (3, .slice (some ⟨g, 0, none⟩) 13 13), (4, .int .i64 j)]) [] (fun j => j ≤ 13 ∧ (kws7.take j).any (fun y => decide (x = y)) = false) (fun j => 13 - j) 0 ⟨Nat.zero_le _, by simp⟩ ?_
  rintro j J ⟨hj, ha⟩ back
  cases hlt : decide ((j : Int) < (13 : Nat)) with
  | false =>
    refine Goes.run [0, 0] [(decide ((j : Int) < (13 : Nat)), false)] ⟨hlt, trivial⟩ ?_
    refine Goes.ret [] (.bool false) fun w' hm hI => ⟨?_, below_end (m := []) (fun j b o h => by cases h) hI.now.1.1 hm (by kernel_rfl)⟩
    obtain rfl : j = 13 := by have := of_decide_eq_false hlt; omega
    rw [show isKw x = false from ha]
  | true =>
    have hjl : j < 13 := by have := of_decide_eq_true hlt; omega
    obtain ⟨y, hy⟩ : ∃ y, kws7[j]? = some y := ⟨kws7[j]'(by show j < 13; exact hjl), List.getElem?_eq_getElem _⟩
    refine Goes.run [0, 1] [(decide ((j : Int) < (13 : Nat)), true)] ⟨hlt, trivial⟩ ?_
    refine Goes.val (Instr.indexAt 48 (.slice (some ⟨g, 0, none⟩) 13 13) (.int .i64 j)) (.pointer (some ⟨g, j, none⟩)) (fun w' _ _ => idxS g 13 13 j hjl w') ?_
    refine Goes.val (Instr.loadAt 9 (.pointer (some ⟨g, j, none⟩))) (strV y) (fun w' _ hI => loadS (ws := kws7) (z := (0, 0)) hI.now.2 hy) ?_
    cases he : decide (x = y) with
    | true =>
      refine Goes.run [1] [(eqS y x, true)] ⟨by rw [eqS_eq]; have := of_decide_eq_true he; simp [this], trivial⟩ ?_
      refine Goes.ret [] (.bool true) fun w' hm hI => ⟨?_, below_end (m := []) (fun j b o h => by cases h) hI.now.1.1 hm (by kernel_rfl)⟩
      have : isKw x = true := List.any_eq_true.2 ⟨y, List.mem_of_getElem? hy, he⟩
      rw [this]
    | false =>
      refine Goes.run [0] [(eqS y x, false)] ⟨by rw [eqS_eq]; exact decide_eq_false (fun e => (of_decide_eq_false he) e.symm), trivial⟩ ?_
      refine Goes.slot 4 (.int .i64 (j + 1 : Nat)) (u := .int .i64 (IntKind.i64.wrap ((j : Int) + 1))) (congrArg _ (wrap_nat (by omega))) ?_
      refine back (j + 1) _ ⟨hjl, ?_⟩ (by omega) (by kernel_rfl) (by kernel_rfl) (by kernel_rfl)
      rw [List.take_add_one, List.any_append, ha, hy]
      simpa using he
end Go.Proofs.YtommhgmlblecnaaGreatDoor
namespace Go.Proofs.YtommhgmlblecnaaGreatDoor
open Go Go.RowKit

def dFm : List UInt8 := [100, 100, 100, 100, 45, 100, 100, 45, 100, 100]
theorem fm_two : ∀ j : Fin 10, (dFm[j.1]? = some 100 ∧ dForm.getD j.1 0 = 48) ∨ (dFm[j.1]? = some 45 ∧ dForm.getD j.1 0 = 45) := by decide
theorem misfit48 (x : UInt8) : misfit x 48 = !cDig (x.toNat : Nat) := by
  unfold misfit
  rw [show cDig ((48 : UInt8).toNat : Nat) = true by decide]
  cases cDig (x.toNat : Nat) <;> simp
theorem misfit45 (x : UInt8) : misfit x 45 = ((x.toNat : Int) != 45) := by
  unfold misfit
  rw [show cDig ((45 : UInt8).toNat : Nat) = false by decide, show (((45 : UInt8).toNat : Nat) : Int) = 45 by decide]
  cases h : cDig (x.toNat : Nat) with
  | false => simp
  | true =>
    have : ¬ (x.toNat : Int) = 45 := by
      unfold cDig at h
      rw [Bool.and_eq_true, decide_eq_true_eq] at h
      omega
    simpa using this
/-- Do the first bytes have a date's form? -/
def fits10 (l : List UInt8) (j : Nat) : Bool := (List.range j).all fun j => !misfit (l.getD j 0) (dForm.getD j 0)
theorem fits_succ (l : List UInt8) (j : Nat) : fits10 l (j + 1) = (fits10 l j && !misfit (l.getD j 0) (dForm.getD j 0)) := by
  unfold fits10
  rw [List.range_succ, List.all_append]
  simp
theorem fits_no {l : List UInt8} {j : Nat} (hj : j < 10) (h : misfit (l.getD j 0) (dForm.getD j 0) = true) : lkD l = false := by
  unfold lkD
  rw [Bool.and_eq_false_iff]
  exact .inr (lk_bad hj h)
theorem wrap_sub7 {a b : Nat} (h : b ≤ a) (ha : a ≤ 1000000000) : IntKind.i64.wrap ((a : Int) - (b : Int)) = ((a - b : Nat) : Int) := by rw [IntWalk.i64_in _ ⟨by omega, by omega⟩]; omega
set_option maxRecDepth 100000 in
set_option maxHeartbeats 1000000 in
seal rn Goes ans atEnd put0 putM opened putA0 oneSt st0 keep putA in
theorem zdate_any (l : List UInt8) (i : Nat) (w : World) (hl : l.length ≤ 1000000000) (hi : i ≤ l.length) : Calls Tryz.prog 79 #[strV l, .int .i64 i] w fun e w' => e = .returned (.bool (lkD (l.drop i))) ∧ Below w.heap.size w w' := by
  have hsub := wrap_sub7 hi hl
  have hlen : (l.drop i).length = l.length - i := List.length_drop
  obtain ⟨Z, hZ⟩ : ∃ Z, lkD (l.drop i) = Z := ⟨_, rfl⟩
  rw [hZ]
  refine Goes.begin Tryz.func79 [] (fun _ => True) (fun j b o h => by cases h) (by simp [Mem.ids]) (fun _ _ => trivial) ?_
  cases h0 : decide (IntKind.i64.wrap ((l.length : Int) - (i : Int)) < 10) with
  | true =>
    have h10 : l.length - i < 10 := by have := of_decide_eq_true h0; rw [hsub] at this; omega
    have : Z = false := by
      rw [← hZ]
      unfold lkD
      rw [hlen, decide_eq_true (by omega : ((l.length - i : Nat) : Int) < 10)]
      rfl
    refine Goes.run [1] [(decide (IntKind.i64.wrap ((l.length : Int) - (i : Int)) < 10), true)] ⟨h0, trivial⟩ ?_
    exact Goes.ret [] (.bool false) fun w' hm hI => ⟨by rw [this], ch_below hI.now.1⟩
  | false =>
  have h10 : 10 ≤ l.length - i := by have := of_decide_eq_false h0; rw [hsub] at this; omega
  refine Goes.run [0] [(decide (IntKind.i64.wrap ((l.length : Int) - (i : Int)) < 10), false)] ⟨h0, trivial⟩ ?_
  refine Goes.loop0 (α := Nat) 66 (fun j => [(0, strV l), (1, .int .i64 i), (5, strV dFm), (6, .int .i64 j)]) [] (fun j => j ≤ 10 ∧ fits10 (l.drop i) j = true) (fun j => 10 - j) 0 ⟨Nat.zero_le _, rfl⟩ ?_
  rintro j J ⟨hj, hfit⟩ back
  cases hlt : decide ((j : Int) < 10) with
  | false =>
    obtain rfl : j = 10 := by have := of_decide_eq_false hlt; omega
    have hZ2 : Z = !(decide (l.length - i > 10) && cDig (((l.drop i).getD 10 0).toNat : Nat)) := by
      rw [← hZ]
      unfold lkD
      rw [hlen, decide_eq_false (by omega : ¬ ((l.length - i : Nat) : Int) < 10), show ((List.range 10).all fun j => !misfit ((l.drop i).getD j 0) (dForm.getD j 0)) = true from hfit]
      rw [Bool.false_or, Bool.and_true]
      congr 2
      exact decide_eq_decide.2 (by omega)
    cases he : (IntKind.i64.wrap ((l.length : Int) - (i : Int)) == 10) with
    | true =>
      have he' : l.length - i = 10 := by have : IntKind.i64.wrap ((l.length : Int) - (i : Int)) = 10 := by simpa using he
                                         rw [hsub] at this; omega
      refine Goes.run [0, 0, 1] [(IntKind.i64.wrap ((l.length : Int) - (i : Int)) == 10, true), (decide (((10 : Nat) : Int) < 10), false)] ⟨he, hlt, trivial⟩ ?_
      refine Goes.ret [] (.bool true) fun w' hm hI => ⟨?_, ch_below hI.now.1⟩
      rw [hZ2, decide_eq_false (by omega)]
      rfl
    | false =>
      have he' : l.length - i ≠ 10 := by have : ¬ IntKind.i64.wrap ((l.length : Int) - (i : Int)) = 10 := by simpa using he
                                         rw [hsub] at this; omega
      obtain ⟨y, hy⟩ : ∃ y, l[i + 10]? = some y := ⟨l[i + 10]'(by omega), by simp⟩
      have hy' : (l.drop i).getD 10 0 = y := by rw [← getD_drop]; simp [List.getD, hy]
      have hw := wrap_add (a := i) (b := 10) (by omega)
      refine Goes.run [0, 0, 0] [(IntKind.i64.wrap ((l.length : Int) - (i : Int)) == 10, false), (decide (((10 : Nat) : Int) < 10), false)] ⟨he, hlt, trivial⟩ ?_
      refine Goes.slot 61 (.int .i64 (i + 10 : Nat)) (u := .int .i64 (IntKind.i64.wrap ((i : Int) + (10 : Nat)))) (congrArg _ hw) ?_
      refine Goes.val (Instr.index 9 (strV l) (.int .i64 (i + 10 : Nat))) (.int .u8 (y.toNat : Nat)) (fun w' _ _ => idxB hy w') ?_
      refine Goes.call0 50 #[.int .u8 (y.toNat : Nat)] (.bool (cDig (y.toNat : Nat))) (fun w' _ _ => zdigit_any _ w') ?_
      refine Goes.run [] [] trivial ?_
      refine Goes.ret [] (.bool (!cDig (y.toNat : Nat))) fun w' hm hI => ⟨?_, ch_below hI.now.1⟩
      rw [hZ2, decide_eq_true (by omega), hy', Bool.true_and]
  | true =>
    have hjl : j < 10 := by have := of_decide_eq_true hlt; omega
    obtain ⟨x, hx⟩ : ∃ x, l[i + j]? = some x := ⟨l[i + j]'(by omega), by simp⟩
    have hx' : (l.drop i).getD j 0 = x := by rw [← getD_drop]; simp [List.getD, hx]
    have hw := wrap_add (a := i) (b := j) (by omega)
    have hmis : ∀ b, misfit x (dForm.getD j 0) = b → (b = true → Z = false) ∧ (b = false → fits10 (l.drop i) (j + 1) = true) := by
      intro b hb
      refine ⟨fun h => ?_, fun h => ?_⟩
      · rw [← hZ]; exact fits_no hjl (by rw [hx', hb, h])
      · rw [fits_succ, hfit, hx', hb, h]; rfl
    refine Goes.run [0, 1] [(decide ((j : Int) < 10), true)] ⟨hlt, trivial⟩ ?_
    refine Goes.slot 24 (.int .i64 (i + j : Nat)) (u := .int .i64 (IntKind.i64.wrap ((i : Int) + (j : Int)))) (congrArg _ hw) ?_
    refine Goes.val (Instr.index 9 (strV l) (.int .i64 (i + j : Nat))) (.int .u8 (x.toNat : Nat)) (fun w' _ _ => idxB hx w') ?_
    refine Goes.call0 50 #[.int .u8 (x.toNat : Nat)] (.bool (cDig (x.toNat : Nat))) (fun w' _ _ => zdigit_any _ w') ?_
    refine Goes.run [] [] trivial ?_
    rcases fm_two ⟨j, hjl⟩ with ⟨hf, hd⟩ | ⟨hf, hd⟩
    · simp only at hf hd
      rw [hd, misfit48] at hmis
      refine Goes.val (Instr.index 9 (strV dFm) (.int .i64 j)) (.int .u8 ((100 : UInt8).toNat : Nat)) (fun w' _ _ => idxB hf w') ?_
      cases hc : cDig (x.toNat : Nat) with
      | true =>
        rw [hc] at hmis
        refine Goes.run [1, 0] [(false, false), (true, true)] ⟨rfl, rfl, trivial⟩ ?_
        refine Goes.val (Instr.index 9 (strV dFm) (.int .i64 j)) (.int .u8 ((100 : UInt8).toNat : Nat)) (fun w' _ _ => idxB hf w') ?_
        refine Goes.run [0, 0] [(false, false), (false, false)] ⟨rfl, rfl, trivial⟩ ?_
        refine Goes.slot 6 (.int .i64 (j + 1 : Nat)) (u := .int .i64 (IntKind.i64.wrap ((j : Int) + 1))) (congrArg _ (wrap_nat (by omega))) ?_
        exact back (j + 1) _ ⟨hjl, (hmis false rfl).2 rfl⟩ (by omega) (by kernel_rfl) (by kernel_rfl) (by kernel_rfl)
      | false =>
        rw [hc] at hmis
        refine Goes.run [1, 1, 1] [(true, true), (true, true), (true, true)] ⟨rfl, rfl, rfl, trivial⟩ ?_
        exact Goes.ret [] (.bool false) fun w' hm hI => ⟨by rw [(hmis true rfl).1 rfl], ch_below hI.now.1⟩
    · simp only at hf hd
      rw [hd, misfit45] at hmis
      refine Goes.val (Instr.index 9 (strV dFm) (.int .i64 j)) (.int .u8 ((45 : UInt8).toNat : Nat)) (fun w' _ _ => idxB hf w') ?_
      refine Goes.run [0, 0] [(false, false), (false, false)] ⟨rfl, rfl, trivial⟩ ?_
      refine Goes.val (Instr.index 9 (strV dFm) (.int .i64 j)) (.int .u8 ((45 : UInt8).toNat : Nat)) (fun w' _ _ => idxB hf w') ?_
      refine Goes.run [1] [(true, true)] ⟨rfl, trivial⟩ ?_
      refine Goes.slot 44 (.int .i64 (i + j : Nat)) (u := .int .i64 (IntKind.i64.wrap ((i : Int) + (j : Int)))) (congrArg _ hw) ?_
      refine Goes.val (Instr.index 9 (strV l) (.int .i64 (i + j : Nat))) (.int .u8 (x.toNat : Nat)) (fun w' _ _ => idxB hx w') ?_
      cases hc : ((x.toNat : Int) != 45) with
      | true =>
        refine Goes.run [1] [((x.toNat : Int) != 45, true)] ⟨hc, trivial⟩ ?_
        exact Goes.ret [] (.bool false) fun w' hm hI => ⟨by rw [(hmis true hc).1 rfl], ch_below hI.now.1⟩
      | false =>
        refine Goes.run [0] [((x.toNat : Int) != 45, false)] ⟨hc, trivial⟩ ?_
        refine Goes.slot 6 (.int .i64 (j + 1 : Nat)) (u := .int .i64 (IntKind.i64.wrap ((j : Int) + 1))) (congrArg _ (wrap_nat (by omega))) ?_
        exact back (j + 1) _ ⟨hjl, (hmis false hc).2 rfl⟩ (by omega) (by kernel_rfl) (by kernel_rfl) (by kernel_rfl)
end Go.Proofs.YtommhgmlblecnaaGreatDoor
namespace Go.Proofs.YtommhgmlblecnaaGreatDoor
open Go Go.RowKit

/-- What a token of the document is called with: the place, the length, what is wrong, as the program's token tells. -/
def RTok (i : Nat) (Q : Tk × Int) (w : World) (e : Ending) (w' : World) : Prop := Below w.heap.size w w' ∧ ∃ (k : Int) (tx : List UInt8) (n a : Int) (m : Nat), e = .returned (.tuple #[.agg #[.int .i64 k, strV tx, .int .i64 n, .int .i64 a], .int .i64 m, .int .i64 Q.2]) ∧ (Q.2 = 0 → a = i ∧ Q.1.e = ((i + m : Nat) : Int))
theorem cut_bhd (C : Int → Bool) (l : List UInt8) (i : Nat) : cutL l i (bhd C l i) = (l.drop i).takeWhile (fun c => C (c.toNat : Nat)) := by
  unfold cutL bhd
  rw [Nat.add_sub_cancel_left]
  exact (List.prefix_iff_eq_take.1 (List.takeWhile_prefix _)).symm
theorem tw_tw (p : UInt8 → Bool) : ∀ l : List UInt8, (l.takeWhile p).takeWhile p = l.takeWhile p
  | [] => rfl
  | x :: l => by
    rw [List.takeWhile_cons]
    cases h : p x with
    | true => simp only [if_true]; rw [List.takeWhile_cons, h]; simp only [if_true]; rw [tw_tw p l]
    | false => simp
/-- A name's bytes at a place make a name just if they are not too many. -/
theorem nm_cut (l : List UInt8) (i : Nat) : nmB (cutL l i (bhd cIn l i)) = (decide (0 < spN l i) && decide (spN l i ≤ 24)) := by
  rw [cut_bhd]
  have hlen : ((l.drop i).takeWhile (fun c => cIn (c.toNat : Nat))).length = bhd cIn l i - i := by unfold bhd; omega
  unfold nmB
  have hb : (bhd cIn ((l.drop i).takeWhile (fun c => cIn (c.toNat : Nat))) 0 : Int) = (((l.drop i).takeWhile (fun c => cIn (c.toNat : Nat))).length : Int) := by
    unfold bhd
    rw [List.drop_zero, tw_tw]
    omega
  rw [hb, beq_self_eq_true, Bool.and_true, hlen]
  rcases Nat.lt_or_ge i l.length with hi | hi
  · obtain ⟨x, hx⟩ : ∃ x, l[i]? = some x := ⟨l[i], by simp⟩
    have hx' : l.getD i 0 = x := by simp [List.getD, hx]
    have hd : l.drop i = x :: l.drop (i + 1) := by
      rw [List.drop_eq_getElem_cons hi]
      congr 1
      exact (List.getElem?_eq_some_iff.1 hx).2
    unfold spN
    rw [decide_eq_true hi, hx', Bool.true_and]
    cases hc : cLet (x.toNat : Nat) with
    | true =>
      have hin : cIn (x.toNat : Nat) = true := by unfold cIn; rw [hc]; rfl
      have h0 : (((l.drop i).takeWhile (fun c => cIn (c.toNat : Nat))).getD 0 0) = x := by
        rw [hd, List.takeWhile_cons, hin]
        rfl
      rw [h0, hc, Bool.and_true, cond_true]
      congr 1
      · exact decide_eq_decide.2 (by omega)
      · exact decide_eq_decide.2 (by omega)
    | false =>
      rw [cond_false]
      have : cLet ((((l.drop i).takeWhile (fun c => cIn (c.toNat : Nat))).getD 0 0).toNat : Nat) = false := by
        rw [hd, List.takeWhile_cons]
        cases cIn (x.toNat : Nat) with
        | true => exact hc
        | false => rfl
      rw [this]
      simp
  · have h1 : bhd cIn l i - i = 0 := by rw [bhd_end hi]; omega
    have h2 : spN l i = 0 := by unfold spN; rw [decide_eq_false (by omega)]; rfl
    rw [h1, h2]
    simp
theorem spN_le (l : List UInt8) (i : Nat) (hi : i ≤ l.length) : i + spN l i ≤ l.length := by
  unfold spN
  have h1 := bhd_le cIn l hi
  have h2 := bhd_ge cIn l i
  cases decide (i < l.length) && cLet ((l.getD i 0).toNat : Nat) with
  | true => simp only [cond_true]; omega
  | false => simp only [cond_false]; omega
theorem spN_cut {l : List UInt8} {i : Nat} (h : 0 < spN l i) : i + spN l i = bhd cIn l i := by
  unfold spN at h ⊢
  have h2 := bhd_ge cIn l i
  cases hc : decide (i < l.length) && cLet ((l.getD i 0).toNat : Nat) with
  | true => simp only [cond_true]; omega
  | false => rw [hc] at h; simp at h
theorem rtok_bad {i : Nat} {w w' : World} {e : Int} {t : Tk} {k n a : Int} {tx : List UInt8} {m : Nat} (he : e ≠ 0) (hB : Below w.heap.size w w') : RTok i (t, e) w (.returned (.tuple #[.agg #[.int .i64 k, strV tx, .int .i64 n, .int .i64 a], .int .i64 m, .int .i64 e])) w' := ⟨hB, k, tx, n, a, m, rfl, fun h => absurd h he⟩
theorem rtok_good {i : Nat} {w w' : World} {k k' n n' : Int} {tx tx' : List UInt8} {m : Nat} {a' : Int} {E : Nat} (hE : E = i + m) (hB : Below w.heap.size w w') : RTok i (⟨k', tx', n', a', (E : Nat)⟩, 0) w (.returned (.tuple #[.agg #[.int .i64 k, strV tx, .int .i64 n, .int .i64 i], .int .i64 m, .int .i64 0])) w' := ⟨hB, k, tx, n, i, m, rfl, fun _ => ⟨rfl, by rw [hE]⟩⟩
set_option maxRecDepth 100000 in
set_option maxHeartbeats 2000000 in
seal rn Goes ans atEnd put0 putM opened putA0 oneSt st0 keep putA in
theorem znamed_any (l : List UInt8) (i : Nat) (w : World) (hl : l.length ≤ 16384) (hi : i < l.length) (hc : cLet ((l.getD i 0).toNat : Nat) = true) : Calls Tryz.prog 49 #[strV l, .int .i64 i] w (RTok i (nameT l i) w) := by
  obtain ⟨N, hN⟩ : ∃ N, spN l i = N := ⟨_, rfl⟩
  obtain ⟨x, hx⟩ : ∃ x, l[i]? = some x := ⟨l[i], by simp⟩
  have hx' : l.getD i 0 = x := by simp [List.getD, hx]
  have hN0 : 0 < N := by
    rw [← hN]
    unfold spN
    have := bhd_adv (C := cIn) hx (by unfold cIn; rw [hx'] at hc; rw [hc]; rfl)
    rw [decide_eq_true hi, hc]
    simp only [Bool.and_self, cond_true]
    omega
  have hE : i + N = bhd cIn l i := by rw [← hN]; exact spN_cut (by rw [hN]; exact hN0)
  have hNl : i + N ≤ l.length := by rw [← hN]; exact spN_le l i (by omega)
  have hnm := nm_cut l i
  rw [← hE, hN, decide_eq_true hN0, Bool.true_and] at hnm
  obtain ⟨X, hX⟩ : ∃ X, cutL l i (i + N) = X := ⟨_, rfl⟩
  rw [hX] at hnm
  have hXl : X.length ≤ 16384 := by rw [← hX]; exact Nat.le_trans (cutL_len _ _ _) hl
  have hw := wrap_add (a := i) (b := N) (by omega)
  obtain ⟨Q, hQ⟩ : ∃ Q, nameT l i = Q := ⟨_, rfl⟩
  rw [hQ]
  unfold nameT at hQ
  rw [← hE, hX, hnm] at hQ
  refine Goes.begin Tryz.func49 [] (fun _ => True) (fun j b o h => by cases h) (by simp [Mem.ids]) (fun _ _ => trivial) ?_
  refine Goes.run1 [] [] trivial fun g1 => ?_
  refine Goes.call0 78 #[strV l, .int .i64 i] (.int .i64 N) (fun w' _ _ => hN ▸ zspan_any l i w' (by omega) (by omega)) ?_
  refine Goes.run [] [] trivial ?_
  refine Goes.slot 19 (.int .i64 (i + N : Nat)) (u := .int .i64 (IntKind.i64.wrap ((i : Int) + (N : Int)))) (congrArg _ hw) ?_
  refine Goes.val (Instr.sliceAt 9 (strV l) (some (.int .i64 i)) (some (.int .i64 (i + N : Nat))) none) (strV X) (fun w' _ _ => hX ▸ sliceS (by omega) hNl w') ?_
  refine Goes.run [] [] trivial ?_
  obtain ⟨K1, hK1⟩ : ∃ K1, isKw X = K1 := ⟨_, rfl⟩
  refine Goes.call0 56 #[strV X] (.bool K1) (fun w' _ _ => hK1 ▸ zword_any X w') ?_
  rw [hK1] at hQ
  have hlt0 : decide (IntKind.i64.wrap ((i : Int) + (N : Int)) < (l.length : Int)) = decide (((i + N : Nat) : Int) < (l.length : Int)) := by rw [hw]
  cases hlt : decide (IntKind.i64.wrap ((i : Int) + (N : Int)) < (l.length : Int)) with
  | false =>
    rw [← hlt0, hlt, Bool.false_and, cond_false] at hQ
    cases h24 : decide ((N : Int) > 24) with
    | true =>
      rw [decide_eq_false (by have := of_decide_eq_true h24; omega)] at hQ
      refine Goes.run [0, 0, 1, 0] [(decide ((N : Int) > 24), true), (false, false), (decide (IntKind.i64.wrap ((i : Int) + (N : Int)) < (l.length : Int)), false)] ⟨h24, rfl, hlt, trivial⟩ ?_
      refine Goes.ret [0] (.tuple #[.agg #[.int .i64 0, strV [], .int .i64 0, .int .i64 0], .int .i64 (0 : Nat), .int .i64 73]) fun w' hm hI => ?_
      rw [← hQ]
      exact rtok_bad (by decide) (ch_below hI.now.1)
    | false =>
      rw [decide_eq_true (by have := of_decide_eq_false h24; omega)] at hQ
      cases K1 with
      | true =>
        refine Goes.run [0, 0, 0, 1, 0] [(true, true), (decide ((N : Int) > 24), false), (false, false), (decide (IntKind.i64.wrap ((i : Int) + (N : Int)) < (l.length : Int)), false)] ⟨rfl, h24, rfl, hlt, trivial⟩ ?_
        refine Goes.ret [0] (.tuple #[.agg #[.int .i64 2, strV X, .int .i64 0, .int .i64 i], .int .i64 N, .int .i64 0]) fun w' hm hI => ?_
        rw [← hQ]
        exact rtok_good rfl (ch_below hI.now.1)
      | false =>
        refine Goes.run [0, 0, 0, 0, 0] [(false, false), (decide ((N : Int) > 24), false), (false, false), (decide (IntKind.i64.wrap ((i : Int) + (N : Int)) < (l.length : Int)), false)] ⟨rfl, h24, rfl, hlt, trivial⟩ ?_
        refine Goes.ret [0] (.tuple #[.agg #[.int .i64 1, strV X, .int .i64 0, .int .i64 i], .int .i64 N, .int .i64 0]) fun w' hm hI => ?_
        rw [← hQ]
        exact rtok_good rfl (ch_below hI.now.1)
  | true =>
    have hNl2 : i + N < l.length := by have := of_decide_eq_true hlt; rw [hw] at this; omega
    obtain ⟨y, hy⟩ : ∃ y, l[i + N]? = some y := ⟨l[i + N], by simp⟩
    have hy' : l.getD (i + N) 0 = y := by simp [List.getD, hy]
    rw [← hlt0, hlt, hy', Bool.true_and] at hQ
    refine Goes.run [1] [(decide (IntKind.i64.wrap ((i : Int) + (N : Int)) < (l.length : Int)), true)] ⟨hlt, trivial⟩ ?_
    refine Goes.slot 33 (.int .i64 (i + N : Nat)) (u := .int .i64 (IntKind.i64.wrap ((i : Int) + (N : Int)))) (congrArg _ hw) ?_
    refine Goes.val (Instr.index 9 (strV l) (.int .i64 (i + N : Nat))) (.int .u8 (y.toNat : Nat)) (fun w' _ _ => idxB hy w') ?_
    cases h46 : ((y.toNat : Int) == 46) with
    | false =>
      rw [h46, cond_false] at hQ
      cases h24 : decide ((N : Int) > 24) with
      | true =>
        rw [decide_eq_false (by have := of_decide_eq_true h24; omega)] at hQ
        refine Goes.run [0, 1, 0] [(decide ((N : Int) > 24), true), ((y.toNat : Int) == 46, false)] ⟨h24, h46, trivial⟩ ?_
        refine Goes.ret [0] (.tuple #[.agg #[.int .i64 0, strV [], .int .i64 0, .int .i64 0], .int .i64 (0 : Nat), .int .i64 73]) fun w' hm hI => ?_
        rw [← hQ]
        exact rtok_bad (by decide) (ch_below hI.now.1)
      | false =>
        rw [decide_eq_true (by have := of_decide_eq_false h24; omega)] at hQ
        cases K1 with
        | true =>
          refine Goes.run [0, 0, 1, 0] [(true, true), (decide ((N : Int) > 24), false), ((y.toNat : Int) == 46, false)] ⟨rfl, h24, h46, trivial⟩ ?_
          refine Goes.ret [0] (.tuple #[.agg #[.int .i64 2, strV X, .int .i64 0, .int .i64 i], .int .i64 N, .int .i64 0]) fun w' hm hI => ?_
          rw [← hQ]
          exact rtok_good rfl (ch_below hI.now.1)
        | false =>
          refine Goes.run [0, 0, 0, 0] [(false, false), (decide ((N : Int) > 24), false), ((y.toNat : Int) == 46, false)] ⟨rfl, h24, h46, trivial⟩ ?_
          refine Goes.ret [0] (.tuple #[.agg #[.int .i64 1, strV X, .int .i64 0, .int .i64 i], .int .i64 N, .int .i64 0]) fun w' hm hI => ?_
          rw [← hQ]
          exact rtok_good rfl (ch_below hI.now.1)
    | true =>
      rw [h46, cond_true] at hQ
      unfold farT at hQ
      have hnm2 := nm_cut l (i + N + 1)
      obtain ⟨M, hM⟩ : ∃ M, spN l (i + N + 1) = M := ⟨_, rfl⟩
      have hMl : i + N + 1 + M ≤ l.length := by rw [← hM]; exact spN_le l _ hNl2
      rw [hM] at hnm2
      unfold isFr at hQ
      rw [hX, hnm, hK1, hnm2] at hQ
      have w1 : IntKind.i64.wrap (IntKind.i64.wrap ((i : Int) + (N : Int)) + 1) = ((i + N + 1 : Nat) : Int) := by rw [hw]; exact wrap_nat (by omega)
      have w2 : IntKind.i64.wrap (IntKind.i64.wrap (IntKind.i64.wrap ((i : Int) + (N : Int)) + 1) + (M : Int)) = ((i + N + 1 + M : Nat) : Int) := by rw [w1]; exact wrap_add (by omega)
      refine Goes.run [1] [((y.toNat : Int) == 46, true)] ⟨h46, trivial⟩ ?_
      refine Goes.slot 41 (.int .i64 (i + N + 1 : Nat)) (u := .int .i64 (IntKind.i64.wrap (IntKind.i64.wrap ((i : Int) + (N : Int)) + 1))) (congrArg _ w1) ?_
      refine Goes.call0 78 #[strV l, .int .i64 (i + N + 1 : Nat)] (.int .i64 M) (fun w' _ _ => hM ▸ zspan_any l (i + N + 1) w' (by omega) (by omega)) ?_
      refine Goes.run [] [] trivial ?_
      refine Goes.slot 47 (.int .i64 (i + N + 1 : Nat)) (u := .int .i64 (IntKind.i64.wrap (IntKind.i64.wrap ((i : Int) + (N : Int)) + 1))) (congrArg _ w1) ?_
      refine Goes.slot 53 (.int .i64 (i + N + 1 + M : Nat)) (u := .int .i64 (IntKind.i64.wrap (IntKind.i64.wrap (IntKind.i64.wrap ((i : Int) + (N : Int)) + 1) + (M : Int)))) (congrArg _ w2) ?_
      obtain ⟨Y, hY⟩ : ∃ Y, cutL l (i + N + 1) (i + N + 1 + M) = Y := ⟨_, rfl⟩
      have hYl : Y.length ≤ 16384 := by rw [← hY]; exact Nat.le_trans (cutL_len _ _ _) hl
      refine Goes.val (Instr.sliceAt 9 (strV l) (some (.int .i64 (i + N + 1 : Nat))) (some (.int .i64 (i + N + 1 + M : Nat))) none) (strV Y) (fun w' _ _ => hY ▸ sliceS (by omega) hMl w') ?_
      cases a1 : decide ((N : Int) > 24) with
      | true =>
        have hq : Q = (tk0, 73) := by
          rw [← hQ, decide_eq_false (by have := of_decide_eq_true a1; omega)]
          rfl
        refine Goes.run [1, 1, 1, 1, 1, 0] [(true, true), (true, true), (true, true), (true, true), (decide ((N : Int) > 24), true)] ⟨rfl, rfl, rfl, rfl, a1, trivial⟩ ?_
        refine Goes.ret [0] (.tuple #[.agg #[.int .i64 0, strV [], .int .i64 0, .int .i64 0], .int .i64 (0 : Nat), .int .i64 73]) fun w' hm hI => ?_
        rw [hq]
        exact rtok_bad (by decide) (ch_below hI.now.1)
      | false =>
      have n24 : decide (N ≤ 24) = true := decide_eq_true (by have := of_decide_eq_false a1; omega)
      rw [n24, Bool.true_and] at hQ
      cases a2 : decide ((M : Int) < 1) with
      | true =>
        have hq : Q = (tk0, 73) := by
          rw [← hQ, decide_eq_false (by have := of_decide_eq_true a2; omega : ¬ 0 < M)]
          simp
        refine Goes.run [0, 1, 1, 1, 1, 0] [(true, true), (true, true), (true, true), (decide ((M : Int) < 1), true), (decide ((N : Int) > 24), false)] ⟨rfl, rfl, rfl, a2, a1, trivial⟩ ?_
        refine Goes.ret [0] (.tuple #[.agg #[.int .i64 0, strV [], .int .i64 0, .int .i64 0], .int .i64 (0 : Nat), .int .i64 73]) fun w' hm hI => ?_
        rw [hq]
        exact rtok_bad (by decide) (ch_below hI.now.1)
      | false =>
      have hM0 : 0 < M := by have := of_decide_eq_false a2; omega
      have hE2 : i + N + 1 + M = bhd cIn l (i + N + 1) := by rw [← hM]; exact spN_cut (by rw [hM]; exact hM0)
      rw [← hE2, hY, decide_eq_true hM0, Bool.true_and] at hQ
      cases a3 : decide ((M : Int) > 24) with
      | true =>
        have hq : Q = (tk0, 73) := by
          rw [← hQ, decide_eq_false (by have := of_decide_eq_true a3; omega : ¬ M ≤ 24)]
          simp
        refine Goes.run [0, 0, 1, 1, 1, 0] [(true, true), (true, true), (decide ((M : Int) > 24), true), (decide ((M : Int) < 1), false), (decide ((N : Int) > 24), false)] ⟨rfl, rfl, a3, a2, a1, trivial⟩ ?_
        refine Goes.ret [0] (.tuple #[.agg #[.int .i64 0, strV [], .int .i64 0, .int .i64 0], .int .i64 (0 : Nat), .int .i64 73]) fun w' hm hI => ?_
        rw [hq]
        exact rtok_bad (by decide) (ch_below hI.now.1)
      | false =>
      rw [decide_eq_true (by have := of_decide_eq_false a3; omega), Bool.true_and] at hQ
      cases K1 with
      | true =>
        have hq : Q = (tk0, 73) := by rw [← hQ]; rfl
        refine Goes.run [0, 0, 0, 1, 1, 0] [(true, true), (true, true), (decide ((M : Int) > 24), false), (decide ((M : Int) < 1), false), (decide ((N : Int) > 24), false)] ⟨rfl, rfl, a3, a2, a1, trivial⟩ ?_
        refine Goes.ret [0] (.tuple #[.agg #[.int .i64 0, strV [], .int .i64 0, .int .i64 0], .int .i64 (0 : Nat), .int .i64 73]) fun w' hm hI => ?_
        rw [hq]
        exact rtok_bad (by decide) (ch_below hI.now.1)
      | false =>
        obtain ⟨K2, hK2⟩ : ∃ K2, isKw Y = K2 := ⟨_, rfl⟩
        rw [hK2] at hQ
        refine Goes.run [0, 0, 0, 0] [(false, false), (decide ((M : Int) > 24), false), (decide ((M : Int) < 1), false), (decide ((N : Int) > 24), false)] ⟨rfl, a3, a2, a1, trivial⟩ ?_
        refine Goes.call0 56 #[strV Y] (.bool K2) (fun w' _ _ => hK2 ▸ zword_any Y w') ?_
        cases K2 with
        | true =>
          have hq : Q = (tk0, 73) := by rw [← hQ]; rfl
          refine Goes.run [1, 0] [(true, true)] ⟨rfl, trivial⟩ ?_
          refine Goes.ret [0] (.tuple #[.agg #[.int .i64 0, strV [], .int .i64 0, .int .i64 0], .int .i64 (0 : Nat), .int .i64 73]) fun w' hm hI => ?_
          rw [hq]
          exact rtok_bad (by decide) (ch_below hI.now.1)
        | false =>
          have w3 : IntKind.i64.wrap (IntKind.i64.wrap ((N : Int) + 1) + (M : Int)) = ((N + 1 + M : Nat) : Int) := by rw [wrap_nat (by omega)]; exact wrap_add (by omega)
          refine Goes.upto 74 [0] [(false, false)] ⟨rfl, trivial⟩ ?_
          refine Goes.val (binOp .add 9 (strV X) (strV [46])) (strV (X ++ [46])) (fun w' _ _ => addS7 (by simp; omega) w') ?_
          refine Goes.upto 76 [] [] trivial ?_
          refine Goes.val (binOp .add 9 (strV (X ++ [46])) (strV Y)) (strV (X ++ [46] ++ Y)) (fun w' _ _ => addS7 (by simp; omega) w') ?_
          refine Goes.run [] [] trivial ?_
          refine Goes.slot 82 (.int .i64 (N + 1 + M : Nat)) (u := .int .i64 (IntKind.i64.wrap (IntKind.i64.wrap ((N : Int) + 1) + (M : Int)))) (congrArg _ w3) ?_
          refine Goes.run [0] [] trivial ?_
          refine Goes.ret [0] (.tuple #[.agg #[.int .i64 3, strV (X ++ [46] ++ Y), .int .i64 0, .int .i64 i], .int .i64 (N + 1 + M : Nat), .int .i64 0]) fun w' hm hI => ?_
          rw [← hQ]
          exact rtok_good (by omega) (ch_below hI.now.1)
end Go.Proofs.YtommhgmlblecnaaGreatDoor
namespace Go.Proofs.YtommhgmlblecnaaGreatDoor
open Go Go.RowKit

set_option maxRecDepth 100000 in
set_option maxHeartbeats 2000000 in
seal rn Goes ans atEnd put0 putM opened putA0 oneSt st0 keep putA in
theorem zquoted_any (l : List UInt8) (i : Nat) (w : World) (hl : l.length ≤ 16384) (hi : i < l.length) : Calls Tryz.prog 52 #[strV l, .int .i64 i] w (RTok i (quoT l i) w) := by
  obtain ⟨Q, hQ⟩ : ∃ Q, quoT l i = Q := ⟨_, rfl⟩
  rw [hQ]
  unfold quoT at hQ
  refine Goes.begin Tryz.func52 [] (fun _ => True) (fun j b o h => by cases h) (by simp [Mem.ids]) (fun _ _ => trivial) ?_
  refine Goes.run1 [] [] trivial fun g1 => ?_
  refine Goes.loop0 (α := Nat) 66 (fun n => [(0, strV l), (1, .int .i64 i), (4, .pointer (some ⟨g1, 0, none⟩)), (7, .int .i64 n)]) [(g1, .cells #[.int .i64 0, strV [], .int .i64 0, .int .i64 0] 36 (0, 0))] (fun n => 1 ≤ n ∧ i + n ≤ l.length ∧ bhd cStr l (i + n) = bhd cStr l (i + 1)) (fun n => l.length - n) 1 ⟨Nat.le_refl _, hi, rfl⟩ ?_
  rintro n J ⟨hn1, hn, hb⟩ back
  have hw := wrap_add (a := i) (b := n) (by omega)
  have w1 := wrap_nat (k := i) (by omega)
  have w2 := wrap_nat (k := n) (by omega)
  cases hlt : decide (IntKind.i64.wrap ((i : Int) + (n : Int)) < (l.length : Int)) with
  | false =>
    have he : i + n = l.length := by have := of_decide_eq_false hlt; rw [hw] at this; omega
    have hbe : bhd cStr l (i + 1) = l.length := by rw [← hb, bhd_end (by omega)]; exact he
    have heq : (IntKind.i64.wrap ((i : Int) + (n : Int)) == (l.length : Int)) = true := by rw [hw, he]; simp
    refine Goes.run [0, 0, 0, 0, 1, 1, 0] [(true, true), (IntKind.i64.wrap ((i : Int) + (n : Int)) == (l.length : Int), true), (false, false), (false, false), (decide (IntKind.i64.wrap ((i : Int) + (n : Int)) < (l.length : Int)), false)] ⟨rfl, heq, rfl, rfl, hlt, trivial⟩ ?_
    refine Goes.ret [0] (.tuple #[.agg #[.int .i64 0, strV [], .int .i64 0, .int .i64 0], .int .i64 (0 : Nat), .int .i64 71]) fun w' hm hI => ?_
    rw [hbe, beq_self_eq_true, Bool.true_or, cond_true] at hQ
    rw [← hQ]
    exact rtok_bad (by decide) (ch_below hI.now.1)
  | true =>
    have hnl : i + n < l.length := by have := of_decide_eq_true hlt; rw [hw] at this; omega
    obtain ⟨y, hy⟩ : ∃ y, l[i + n]? = some y := ⟨l[i + n], by simp⟩
    have hy' : l.getD (i + n) 0 = y := by simp [List.getD, hy]
    have hne : (IntKind.i64.wrap ((i : Int) + (n : Int)) == (l.length : Int)) = false := by rw [hw, beq_eq_false_iff_ne]; omega
    refine Goes.run [0, 1] [(decide (IntKind.i64.wrap ((i : Int) + (n : Int)) < (l.length : Int)), true)] ⟨hlt, trivial⟩ ?_
    refine Goes.slot 20 (.int .i64 (i + n : Nat)) (u := .int .i64 (IntKind.i64.wrap ((i : Int) + (n : Int)))) (congrArg _ hw) ?_
    refine Goes.val (Instr.index 9 (strV l) (.int .i64 (i + n : Nat))) (.int .u8 (y.toNat : Nat)) (fun w' _ _ => idxB hy w') ?_
    cases h34 : ((y.toNat : Int) != 34) with
    | false =>
      have hc : cStr (y.toNat : Nat) = false := by unfold cStr; rw [h34]; rfl
      have hbe : bhd cStr l (i + 1) = i + n := by rw [← hb, bhd_out hy hc]
      have h10 : ((y.toNat : Int) == 10) = false := by
        have : (y.toNat : Int) = 34 := by simpa using h34
        rw [this]
        rfl
      rw [hbe, hy', h34] at hQ
      have hne2 : (((i + n : Nat) : Int) == (l.length : Int)) = false := by rw [← hw]; exact hne
      rw [hne2, Bool.false_or, cond_false] at hQ
      obtain ⟨X, hX⟩ : ∃ X, cutL l (i + 1) (i + n) = X := ⟨_, rfl⟩
      have hXl : X.length ≤ 16384 := by rw [← hX]; exact Nat.le_trans (cutL_len _ _ _) hl
      rw [hX] at hQ
      refine Goes.run [0, 0, 0] [(IntKind.i64.wrap ((i : Int) + (n : Int)) == (l.length : Int), false), (false, false), ((y.toNat : Int) != 34, false)] ⟨hne, rfl, h34, trivial⟩ ?_
      refine Goes.slot 44 (.int .i64 (i + n : Nat)) (u := .int .i64 (IntKind.i64.wrap ((i : Int) + (n : Int)))) (congrArg _ hw) ?_
      refine Goes.val (Instr.index 9 (strV l) (.int .i64 (i + n : Nat))) (.int .u8 (y.toNat : Nat)) (fun w' _ _ => idxB hy w') ?_
      refine Goes.run [0] [((y.toNat : Int) == 10, false)] ⟨h10, trivial⟩ ?_
      refine Goes.slot 51 (.int .i64 (i + 1 : Nat)) (u := .int .i64 (IntKind.i64.wrap ((i : Int) + 1))) (congrArg _ w1) ?_
      refine Goes.slot 54 (.int .i64 (i + n : Nat)) (u := .int .i64 (IntKind.i64.wrap ((i : Int) + (n : Int)))) (congrArg _ hw) ?_
      refine Goes.val (Instr.sliceAt 9 (strV l) (some (.int .i64 (i + 1 : Nat))) (some (.int .i64 (i + n : Nat))) none) (strV X) (fun w' _ _ => hX ▸ sliceS (by omega) hn w') ?_
      refine Goes.run [] [] trivial ?_
      refine Goes.call0 55 #[strV X] (.bool (nmB X)) (fun w' _ _ => zname_any X w' (by omega)) ?_
      cases hnm : nmB X with
      | false =>
        refine Goes.run [1, 0] [(true, true)] ⟨rfl, trivial⟩ ?_
        refine Goes.ret [0] (.tuple #[.agg #[.int .i64 0, strV [], .int .i64 0, .int .i64 0], .int .i64 (0 : Nat), .int .i64 73]) fun w' hm hI => ?_
        rw [hnm, cond_false] at hQ
        rw [← hQ]
        exact rtok_bad (by decide) (ch_below hI.now.1)
      | true =>
        refine Goes.run [0] [(false, false)] ⟨rfl, trivial⟩ ?_
        refine Goes.slot 65 (.int .i64 (n + 1 : Nat)) (u := .int .i64 (IntKind.i64.wrap ((n : Int) + 1))) (congrArg _ w2) ?_
        refine Goes.run [0] [] trivial ?_
        refine Goes.ret [0] (.tuple #[.agg #[.int .i64 7, strV X, .int .i64 0, .int .i64 i], .int .i64 (n + 1 : Nat), .int .i64 0]) fun w' hm hI => ?_
        rw [hnm, cond_true] at hQ
        rw [← hQ]
        exact rtok_good (by omega) (ch_below hI.now.1)
    | true =>
      refine Goes.run [1] [((y.toNat : Int) != 34, true)] ⟨h34, trivial⟩ ?_
      refine Goes.slot 28 (.int .i64 (i + n : Nat)) (u := .int .i64 (IntKind.i64.wrap ((i : Int) + (n : Int)))) (congrArg _ hw) ?_
      refine Goes.val (Instr.index 9 (strV l) (.int .i64 (i + n : Nat))) (.int .u8 (y.toNat : Nat)) (fun w' _ _ => idxB hy w') ?_
      cases h10 : ((y.toNat : Int) != 10) with
      | false =>
        have hc : cStr (y.toNat : Nat) = false := by unfold cStr; rw [h10]; simp
        have hbe : bhd cStr l (i + 1) = i + n := by rw [← hb, bhd_out hy hc]
        have h10' : ((y.toNat : Int) == 10) = true := by simpa using h10
        rw [hbe, hy', h34, Bool.or_true, cond_true] at hQ
        refine Goes.run [0, 0] [(IntKind.i64.wrap ((i : Int) + (n : Int)) == (l.length : Int), false), ((y.toNat : Int) != 10, false)] ⟨hne, h10, trivial⟩ ?_
        refine Goes.slot 44 (.int .i64 (i + n : Nat)) (u := .int .i64 (IntKind.i64.wrap ((i : Int) + (n : Int)))) (congrArg _ hw) ?_
        refine Goes.val (Instr.index 9 (strV l) (.int .i64 (i + n : Nat))) (.int .u8 (y.toNat : Nat)) (fun w' _ _ => idxB hy w') ?_
        refine Goes.run [1, 0] [((y.toNat : Int) == 10, true)] ⟨h10', trivial⟩ ?_
        refine Goes.ret [0] (.tuple #[.agg #[.int .i64 0, strV [], .int .i64 0, .int .i64 0], .int .i64 (0 : Nat), .int .i64 71]) fun w' hm hI => ?_
        rw [← hQ]
        exact rtok_bad (by decide) (ch_below hI.now.1)
      | true =>
        have hc : cStr (y.toNat : Nat) = true := by unfold cStr; rw [h34, h10]; rfl
        refine Goes.run [1] [((y.toNat : Int) != 10, true)] ⟨h10, trivial⟩ ?_
        refine Goes.slot 7 (.int .i64 (n + 1 : Nat)) (u := .int .i64 (IntKind.i64.wrap ((n : Int) + 1))) (congrArg _ w2) ?_
        exact back (n + 1) _ ⟨by omega, hnl, by rw [← hb, bhd_in hy hc]; rfl⟩ (by omega) (by kernel_rfl) (by kernel_rfl) (by kernel_rfl)
end Go.Proofs.YtommhgmlblecnaaGreatDoor
namespace Go.Proofs.YtommhgmlblecnaaGreatDoor
open Go Go.RowKit

theorem zparse (x : List UInt8) (w : World) (hx : x.length ≤ 1000000000) : Calls Tryz.prog 81 #[strV x] w fun e w' => e = .returned (.tuple #[.int .i64 (parseL x).1, .bool (parseL x).2]) ∧ Below w.heap.size w w' :=
  (rparse_any ⟨x.toArray⟩ w (by simp [ByteArray.size, maxLen]; omega)).mono fun _ _ ⟨h1, h2⟩ => ⟨h1, by rw [h2]; exact Below.refl _ _⟩
theorem zdparse (x : List UInt8) (w : World) : Calls Tryz.prog 80 #[strV x] w fun e w' => e = .returned (.tuple #[.int .i64 (dPar x).1, .int .i64 (dPar x).2]) ∧ Below w.heap.size w w' :=
  (rdparse_any ⟨x.toArray⟩ w).mono fun _ _ ⟨h1, h2⟩ => ⟨by rw [h1]; exact congrArg _ (parseV_dPar x), h2⟩
/-- What is to be done from where a number's end is known. -/
def K51of (b : Option Code) : List TI :=
  match b with
  | some (.seq _ (.seq _ (.seq _ (.seq _ (.seq (.seq _ (.cond _ _ (.seq _ (.seq _ (.seq _ (.seq (.region _ ops _) t))))))  r))))) => [.reg ops ops.toList [], .code t, .code r]
  | _ => []
/-- What is to be done from the loop over a number's places on. -/
def K51bof (b : Option Code) : List TI :=
  match b with
  | some (.seq _ (.seq _ (.seq _ (.seq _ (.seq (.seq _ (.cond _ _ (.seq _ (.seq _ (.seq (.seq _ (.cond _ (.seq _ (.block j (.loop x))) _)) t))))) r))))) => [.lp x, .blk j, .code t, .code r]
  | _ => []
noncomputable def K51b : List TI := K51bof Tryz.f51.body
noncomputable def K51 : List TI := K51of Tryz.f51.body
set_option maxRecDepth 100000 in
set_option maxHeartbeats 300000 in
seal rn rnS K51 K51b Goes ans atEnd put0 putM opened putA0 oneSt st0 keep putA parseL dPar in
theorem znumber_any (l : List UInt8) (i : Nat) (w : World) (hl : l.length ≤ 16384) (hi : i < l.length) (hd0 : cDig ((l.getD i 0).toNat : Nat) = true) : Calls Tryz.prog 51 #[strV l, .int .i64 i] w (RTok i (nbrT l i) w) := by
  obtain ⟨x, hx⟩ : ∃ x, l[i]? = some x := ⟨l[i], by simp⟩
  have hx' : l.getD i 0 = x := by simp [List.getD, hx]
  rw [hx'] at hd0
  obtain ⟨Q, hQ⟩ : ∃ Q, nbrT l i = Q := ⟨_, rfl⟩
  rw [hQ]
  unfold nbrT nodT at hQ
  obtain ⟨D, hD⟩ : ∃ D, lkD (l.drop i) = D := ⟨_, rfl⟩
  rw [hD] at hQ
  refine Goes.begin Tryz.func51 [] (fun _ => True) (fun j b o h => by cases h) (by simp [Mem.ids]) (fun _ _ => trivial) ?_
  refine Goes.run2 [1] [] trivial fun g1 g2 => ?_
  refine Goes.call0 79 #[strV l, .int .i64 i] (.bool D) (fun w' _ _ => hD ▸ zdate_any l i w' (by omega) (by omega)) ?_
  cases D with
  | true =>
    have h10 : i + 10 ≤ l.length := by have := lkD_ten hD; rw [List.length_drop] at this; omega
    obtain ⟨n, hn⟩ : ∃ n : Nat, n = 10 := ⟨_, rfl⟩
    have hw := wrap_add (a := i) (b := 10) (by omega)
    simp only [cond_true] at hQ
    unfold dateT at hQ
    simp only [Int.toNat_natCast] at hQ
    obtain ⟨X, hX⟩ : ∃ X, cutL l i (i + 10) = X := ⟨_, rfl⟩
    rw [hX] at hQ
    obtain ⟨V, hV⟩ : ∃ V, (dPar X).1 = V := ⟨_, rfl⟩
    obtain ⟨B, hB⟩ : ∃ B, (dPar X).2 = B := ⟨_, rfl⟩
    rw [hV, hB] at hQ
    refine Goes.run [1] [(true, true)] ⟨rfl, trivial⟩ ?_
    refine Goes.slot 26 (.int .i64 (i + 10 : Nat)) (u := .int .i64 (IntKind.i64.wrap ((i : Int) + (10 : Nat)))) (congrArg _ hw) ?_
    refine Goes.val (Instr.sliceAt 9 (strV l) (some (.int .i64 i)) (some (.int .i64 (i + 10 : Nat))) none) (strV X) (fun w' _ _ => hX ▸ sliceS (by omega) h10 w') ?_
    refine Goes.call0 80 #[strV X] (.tuple #[.int .i64 V, .int .i64 B]) (fun w' _ _ => hV ▸ hB ▸ zdparse X w') ?_
    cases hB0 : (B != 0) with
    | true =>
      have hB1 : (B == 0) = false := by unfold bne at hB0; simpa using hB0
      have hq : Q = (tk0, 72) := by rw [← hQ, hB1]; rfl
      refine Goes.run [1, 1, 0] [(B != 0, true)] ⟨hB0, trivial⟩ ?_
      refine Goes.ret [0] (.tuple #[.agg #[.int .i64 0, strV [], .int .i64 0, .int .i64 i], .int .i64 (0 : Nat), .int .i64 72]) fun w' hm hI => ?_
      rw [hq]
      exact rtok_bad (by decide) (ch_below hI.now.1)
    | false =>
      have hB1 : (B == 0) = true := by unfold bne at hB0; simpa using hB0
      rw [hB1] at hQ
      simp only [Bool.not_true, Bool.false_or] at hQ
      have hnl : i + n ≤ l.length := by omega
      cases hlt : decide (IntKind.i64.wrap ((i : Int) + ((10 : Nat) : Int)) < (l.length : Int)) with
      | false =>
        have hq : Q = (⟨5, [], V, i, ((i + 10 : Nat) : Int)⟩, 0) := by
          rw [← hQ, show decide (((i + 10 : Nat) : Int) < (l.length : Int)) = false by rw [← hw]; exact hlt]
          rfl
        refine Goes.run [0, 1, 1, 0, 1, 0] [(decide (IntKind.i64.wrap ((i : Int) + ((10 : Nat) : Int)) < (l.length : Int)), false), (B != 0, false)] ⟨hlt, hB0, trivial⟩ ?_
        refine Goes.ret [0] (.tuple #[.agg #[.int .i64 5, strV [], .int .i64 V, .int .i64 i], .int .i64 (10 : Nat), .int .i64 0]) fun w' hm hI => ?_
        rw [hq]
        exact rtok_good rfl (ch_below hI.now.1)
      | true =>
        have hnl2 : i + 10 < l.length := by have := of_decide_eq_true hlt; rw [hw] at this; omega
        obtain ⟨c, hc⟩ : ∃ c, l[i + 10]? = some c := ⟨l[i + 10], by simp⟩
        have hc' : l.getD (i + 10) 0 = c := by simp [List.getD, hc]
        have hQ2 : (bif cBad (c.toNat : Nat) then ((tk0, 72) : Tk × Int) else (⟨5, [], V, i, ((i + 10 : Nat) : Int)⟩, 0)) = Q := by
          rw [← hQ, show decide (((i + 10 : Nat) : Int) < (l.length : Int)) = true by rw [← hw]; exact hlt, hc']
          rfl
        unfold cBad at hQ2
        refine Goes.run [0, 1, 1, 1] [(decide (IntKind.i64.wrap ((i : Int) + ((10 : Nat) : Int)) < (l.length : Int)), true), (B != 0, false)] ⟨hlt, hB0, trivial⟩ ?_
        refine Goes.slot 120 (.int .i64 (i + 10 : Nat)) (u := .int .i64 (IntKind.i64.wrap ((i : Int) + ((10 : Nat) : Int)))) (congrArg _ hw) ?_
        refine Goes.val (Instr.index 9 (strV l) (.int .i64 (i + 10 : Nat))) (.int .u8 (c.toNat : Nat)) (fun w' _ _ => idxB hc w') ?_
        refine Goes.run [] [] trivial ?_
        refine Goes.call0 48 #[.int .u8 (c.toNat : Nat)] (.bool (cLet (c.toNat : Nat))) (fun w' _ _ => zsmall_any _ w') ?_
        cases b1 : cLet (c.toNat : Nat) with
        | true =>
          have hq : Q = (tk0, 72) := by rw [← hQ2, b1]; rfl
          refine Goes.run [1, 1, 1, 1, 1, 0] [(true, true), (true, true), (true, true), (true, true)] ⟨rfl, rfl, rfl, rfl, trivial⟩ ?_
          refine Goes.ret [0] (.tuple #[.agg #[.int .i64 5, strV [], .int .i64 V, .int .i64 i], .int .i64 (0 : Nat), .int .i64 72]) fun w' hm hI => ?_
          rw [hq]
          exact rtok_bad (by decide) (ch_below hI.now.1)
        | false =>
          rw [b1, Bool.false_or] at hQ2
          refine Goes.run [0] [(false, false)] ⟨rfl, trivial⟩ ?_
          refine Goes.call0 53 #[.int .u8 (c.toNat : Nat)] (.bool (cCap (c.toNat : Nat))) (fun w' _ _ => zgreat_any _ w') ?_
          cases b2 : cCap (c.toNat : Nat) with
          | true =>
            have hq : Q = (tk0, 72) := by rw [← hQ2, b2]; rfl
            refine Goes.run [1, 1, 1, 1, 0] [(true, true), (true, true), (true, true)] ⟨rfl, rfl, rfl, trivial⟩ ?_
            refine Goes.ret [0] (.tuple #[.agg #[.int .i64 5, strV [], .int .i64 V, .int .i64 i], .int .i64 (0 : Nat), .int .i64 72]) fun w' hm hI => ?_
            rw [hq]
            exact rtok_bad (by decide) (ch_below hI.now.1)
          | false =>
            rw [b2, Bool.false_or] at hQ2
            cases b3 : ((c.toNat : Int) == 95) with
            | true =>
              have hq : Q = (tk0, 72) := by rw [← hQ2, b3]; rfl
              refine Goes.run [0, 1, 1, 1, 0] [(true, true), ((c.toNat : Int) == 95, true), (false, false)] ⟨rfl, b3, rfl, trivial⟩ ?_
              refine Goes.ret [0] (.tuple #[.agg #[.int .i64 5, strV [], .int .i64 V, .int .i64 i], .int .i64 (0 : Nat), .int .i64 72]) fun w' hm hI => ?_
              rw [hq]
              exact rtok_bad (by decide) (ch_below hI.now.1)
            | false =>
              rw [b3, Bool.false_or] at hQ2
              cases b4 : ((c.toNat : Int) == 46) with
              | true =>
                have hq : Q = (tk0, 72) := by rw [← hQ2, b4]; rfl
                refine Goes.run [0, 0, 1, 1, 0] [((c.toNat : Int) == 46, true), ((c.toNat : Int) == 95, false), (false, false)] ⟨b4, b3, rfl, trivial⟩ ?_
                refine Goes.ret [0] (.tuple #[.agg #[.int .i64 5, strV [], .int .i64 V, .int .i64 i], .int .i64 (0 : Nat), .int .i64 72]) fun w' hm hI => ?_
                rw [hq]
                exact rtok_bad (by decide) (ch_below hI.now.1)
              | false =>
                have hq : Q = (⟨5, [], V, i, ((i + 10 : Nat) : Int)⟩, 0) := by rw [← hQ2, b4]; rfl
                refine Goes.run [0, 0, 0, 1, 0] [((c.toNat : Int) == 46, false), ((c.toNat : Int) == 95, false), (false, false)] ⟨b4, b3, rfl, trivial⟩ ?_
                refine Goes.ret [0] (.tuple #[.agg #[.int .i64 5, strV [], .int .i64 V, .int .i64 i], .int .i64 (10 : Nat), .int .i64 0]) fun w' hm hI => ?_
                rw [hq]
                exact rtok_good rfl (ch_below hI.now.1)
  | false =>
    simp only [cond_false] at hQ
    unfold numT at hQ
    refine Goes.withJoin (α := Nat) K51 140 (fun n => [(0, strV l), (1, .int .i64 i), (4, .pointer (some ⟨g1, 0, none⟩)), (7, .pointer (some ⟨g2, 0, none⟩)), (8, .int .i64 n)]) (fun _ => [(g1, .cells #[.int .i64 0, strV [], .int .i64 0, .int .i64 0] 36 (0, 0)), (g2, .cells #[.int .i64 0, strV [], .int .i64 0, .int .i64 i] 36 (0, 0))]) (fun w' => Ch [] w w' ∧ True) (fun n => 1 ≤ n ∧ i + n ≤ l.length ∧ numE l i = i + n) ?_ fun joined => ?_
    · rintro n J ⟨hn1, hnl, hE⟩
      have hw := wrap_add (a := i) (b := n) (by omega)
      rw [hE] at hQ
      obtain ⟨X, hX⟩ : ∃ X, cutL l i (i + n) = X := ⟨_, rfl⟩
      have hXl : X.length ≤ 16384 := by rw [← hX]; exact Nat.le_trans (cutL_len _ _ _) hl
      rw [hX] at hQ
      obtain ⟨V, hV⟩ : ∃ V, (parseL X).1 = V := ⟨_, rfl⟩
      obtain ⟨B, hB⟩ : ∃ B, (parseL X).2 = B := ⟨_, rfl⟩
      rw [hV, hB] at hQ
      refine Goes.run [] [] trivial ?_
      refine Goes.slot 100 (.int .i64 (i + n : Nat)) (u := .int .i64 (IntKind.i64.wrap ((i : Int) + (n : Int)))) (congrArg _ hw) ?_
      refine Goes.val (Instr.sliceAt 9 (strV l) (some (.int .i64 i)) (some (.int .i64 (i + n : Nat))) none) (strV X) (fun w' _ _ => hX ▸ sliceS (by omega) hnl w') ?_
      refine Goes.call0 81 #[strV X] (.tuple #[.int .i64 V, .bool B]) (fun w' _ _ => hV ▸ hB ▸ zparse X w' (by omega)) ?_
      simp only [Int.toNat_natCast] at hQ
      cases B with
      | false =>
        have hq : Q = (tk0, 72) := by rw [← hQ]; rfl
        refine Goes.run [1, 1, 0] [(true, true)] ⟨rfl, trivial⟩ ?_
        refine Goes.ret [0] (.tuple #[.agg #[.int .i64 0, strV [], .int .i64 0, .int .i64 i], .int .i64 (0 : Nat), .int .i64 72]) fun w' hm hI => ?_
        rw [hq]
        exact rtok_bad (by decide) (ch_below hI.now.1)
      | true =>
        simp only [Bool.not_true, Bool.false_or] at hQ
        cases hlt : decide (IntKind.i64.wrap ((i : Int) + (n : Int)) < (l.length : Int)) with
        | false =>
          have hq : Q = (⟨6, [], V, i, ((i + n : Nat) : Int)⟩, 0) := by
            rw [← hQ, show decide (((i + n : Nat) : Int) < (l.length : Int)) = false by rw [← hw]; exact hlt]
            rfl
          refine Goes.run [0, 1, 1, 0, 1, 0] [(decide (IntKind.i64.wrap ((i : Int) + (n : Int)) < (l.length : Int)), false), (false, false)] ⟨hlt, rfl, trivial⟩ ?_
          refine Goes.ret [0] (.tuple #[.agg #[.int .i64 6, strV [], .int .i64 V, .int .i64 i], .int .i64 n, .int .i64 0]) fun w' hm hI => ?_
          rw [hq]
          exact rtok_good rfl (ch_below hI.now.1)
        | true =>
          have hnl2 : i + n < l.length := by have := of_decide_eq_true hlt; rw [hw] at this; omega
          obtain ⟨c, hc⟩ : ∃ c, l[i + n]? = some c := ⟨l[i + n], by simp⟩
          have hc' : l.getD (i + n) 0 = c := by simp [List.getD, hc]
          have hQ2 : (bif cBad (c.toNat : Nat) then ((tk0, 72) : Tk × Int) else (⟨6, [], V, i, ((i + n : Nat) : Int)⟩, 0)) = Q := by
            rw [← hQ, show decide (((i + n : Nat) : Int) < (l.length : Int)) = true by rw [← hw]; exact hlt, hc']
            rfl
          unfold cBad at hQ2
          refine Goes.run [0, 1, 1, 1] [(decide (IntKind.i64.wrap ((i : Int) + (n : Int)) < (l.length : Int)), true), (false, false)] ⟨hlt, rfl, trivial⟩ ?_
          refine Goes.slot 120 (.int .i64 (i + n : Nat)) (u := .int .i64 (IntKind.i64.wrap ((i : Int) + (n : Int)))) (congrArg _ hw) ?_
          refine Goes.val (Instr.index 9 (strV l) (.int .i64 (i + n : Nat))) (.int .u8 (c.toNat : Nat)) (fun w' _ _ => idxB hc w') ?_
          refine Goes.run [] [] trivial ?_
          refine Goes.call0 48 #[.int .u8 (c.toNat : Nat)] (.bool (cLet (c.toNat : Nat))) (fun w' _ _ => zsmall_any _ w') ?_
          cases b1 : cLet (c.toNat : Nat) with
          | true =>
            have hq : Q = (tk0, 72) := by rw [← hQ2, b1]; rfl
            refine Goes.run [1, 1, 1, 1, 1, 0] [(true, true), (true, true), (true, true), (true, true)] ⟨rfl, rfl, rfl, rfl, trivial⟩ ?_
            refine Goes.ret [0] (.tuple #[.agg #[.int .i64 6, strV [], .int .i64 V, .int .i64 i], .int .i64 (0 : Nat), .int .i64 72]) fun w' hm hI => ?_
            rw [hq]
            exact rtok_bad (by decide) (ch_below hI.now.1)
          | false =>
            rw [b1, Bool.false_or] at hQ2
            refine Goes.run [0] [(false, false)] ⟨rfl, trivial⟩ ?_
            refine Goes.call0 53 #[.int .u8 (c.toNat : Nat)] (.bool (cCap (c.toNat : Nat))) (fun w' _ _ => zgreat_any _ w') ?_
            cases b2 : cCap (c.toNat : Nat) with
            | true =>
              have hq : Q = (tk0, 72) := by rw [← hQ2, b2]; rfl
              refine Goes.run [1, 1, 1, 1, 0] [(true, true), (true, true), (true, true)] ⟨rfl, rfl, rfl, trivial⟩ ?_
              refine Goes.ret [0] (.tuple #[.agg #[.int .i64 6, strV [], .int .i64 V, .int .i64 i], .int .i64 (0 : Nat), .int .i64 72]) fun w' hm hI => ?_
              rw [hq]
              exact rtok_bad (by decide) (ch_below hI.now.1)
            | false =>
              rw [b2, Bool.false_or] at hQ2
              cases b3 : ((c.toNat : Int) == 95) with
              | true =>
                have hq : Q = (tk0, 72) := by rw [← hQ2, b3]; rfl
                refine Goes.run [0, 1, 1, 1, 0] [(true, true), ((c.toNat : Int) == 95, true), (false, false)] ⟨rfl, b3, rfl, trivial⟩ ?_
                refine Goes.ret [0] (.tuple #[.agg #[.int .i64 6, strV [], .int .i64 V, .int .i64 i], .int .i64 (0 : Nat), .int .i64 72]) fun w' hm hI => ?_
                rw [hq]
                exact rtok_bad (by decide) (ch_below hI.now.1)
              | false =>
                rw [b3, Bool.false_or] at hQ2
                cases b4 : ((c.toNat : Int) == 46) with
                | true =>
                  have hq : Q = (tk0, 72) := by rw [← hQ2, b4]; rfl
                  refine Goes.run [0, 0, 1, 1, 0] [((c.toNat : Int) == 46, true), ((c.toNat : Int) == 95, false), (false, false)] ⟨b4, b3, rfl, trivial⟩ ?_
                  refine Goes.ret [0] (.tuple #[.agg #[.int .i64 6, strV [], .int .i64 V, .int .i64 i], .int .i64 (0 : Nat), .int .i64 72]) fun w' hm hI => ?_
                  rw [hq]
                  exact rtok_bad (by decide) (ch_below hI.now.1)
                | false =>
                  have hq : Q = (⟨6, [], V, i, ((i + n : Nat) : Int)⟩, 0) := by rw [← hQ2, b4]; rfl
                  refine Goes.run [0, 0, 0, 1, 0] [((c.toNat : Int) == 46, false), ((c.toNat : Int) == 95, false), (false, false)] ⟨b4, b3, rfl, trivial⟩ ?_
                  refine Goes.ret [0] (.tuple #[.agg #[.int .i64 6, strV [], .int .i64 V, .int .i64 i], .int .i64 n, .int .i64 0]) fun w' hm hI => ?_
                  rw [hq]
                  exact rtok_good rfl (ch_below hI.now.1)
    refine Goes.withJoin (α := Nat) K51b 140 (fun n => [(0, strV l), (1, .int .i64 i), (4, .pointer (some ⟨g1, 0, none⟩)), (7, .pointer (some ⟨g2, 0, none⟩)), (8, .int .i64 n)]) (fun _ => [(g1, .cells #[.int .i64 0, strV [], .int .i64 0, .int .i64 0] 36 (0, 0)), (g2, .cells #[.int .i64 0, strV [], .int .i64 0, .int .i64 i] 36 (0, 0))]) (fun w' => Ch [] w w' ∧ True) (fun m => 1 ≤ m ∧ i + m ≤ l.length ∧ bhd cDig l (i + m) = numE l i) ?_ fun joined2 => ?_
    · rintro m0 J0 ⟨hm1, hml, hmb⟩
      refine Goes.loop0 (α := Nat) 140 (fun n => [(0, strV l), (1, .int .i64 i), (4, .pointer (some ⟨g1, 0, none⟩)), (7, .pointer (some ⟨g2, 0, none⟩)), (8, .int .i64 n)]) [(g1, .cells #[.int .i64 0, strV [], .int .i64 0, .int .i64 0] 36 (0, 0)), (g2, .cells #[.int .i64 0, strV [], .int .i64 0, .int .i64 i] 36 (0, 0))] (fun m => 1 ≤ m ∧ i + m ≤ l.length ∧ bhd cDig l (i + m) = numE l i) (fun m => l.length - m) m0 ⟨hm1, hml, hmb⟩ ?_
      rintro m J2 ⟨hm2, hnl, hbm⟩ back2
      have hw := wrap_add (a := i) (b := m) (by omega)
      cases hlt : decide (IntKind.i64.wrap ((i : Int) + (m : Int)) < (l.length : Int)) with
      | false =>
        have hE : numE l i = i + m := by
          have := of_decide_eq_false hlt
          rw [hw] at this
          rw [← hbm, bhd_end (by omega)]
        refine Goes.upto 96 [0, 0, 0] [(false, false), (decide (IntKind.i64.wrap ((i : Int) + (m : Int)) < (l.length : Int)), false)] ⟨rfl, hlt, trivial⟩ ?_
        exact joined m _ ⟨by omega, by omega, hE⟩ (by kernel_rfl) (by kernel_rfl) (by kernel_rfl)
      | true =>
        have hnl2 : i + m < l.length := by have := of_decide_eq_true hlt; rw [hw] at this; omega
        obtain ⟨q, hq0⟩ : ∃ q, l[i + m]? = some q := ⟨l[i + m], by simp⟩
        refine Goes.run [0, 1] [(decide (IntKind.i64.wrap ((i : Int) + (m : Int)) < (l.length : Int)), true)] ⟨hlt, trivial⟩ ?_
        refine Goes.slot 89 (.int .i64 (i + m : Nat)) (u := .int .i64 (IntKind.i64.wrap ((i : Int) + (m : Int)))) (congrArg _ hw) ?_
        refine Goes.val (Instr.index 9 (strV l) (.int .i64 (i + m : Nat))) (.int .u8 (q.toNat : Nat)) (fun w' _ _ => idxB hq0 w') ?_
        refine Goes.call0 50 #[.int .u8 (q.toNat : Nat)] (.bool (cDig (q.toNat : Nat))) (fun w' _ _ => zdigit_any _ w') ?_
        cases hdq : cDig (q.toNat : Nat) with
        | false =>
          have hE : numE l i = i + m := by rw [← hbm, bhd_out hq0 hdq]
          refine Goes.upto 96 [0] [(false, false)] ⟨rfl, trivial⟩ ?_
          exact joined m _ ⟨by omega, by omega, hE⟩ (by kernel_rfl) (by kernel_rfl) (by kernel_rfl)
        | true =>
          refine Goes.run [1] [(true, true)] ⟨rfl, trivial⟩ ?_
          refine Goes.slot 8 (.int .i64 (m + 1 : Nat)) (u := .int .i64 (IntKind.i64.wrap ((m : Int) + 1))) (congrArg _ (wrap_nat (by omega))) ?_
          exact back2 (m + 1) _ ⟨by omega, hnl2, by rw [← hbm, bhd_in hq0 hdq]; rfl⟩ (by omega) (by kernel_rfl) (by kernel_rfl) (by kernel_rfl)
    refine Goes.run [0] [(false, false)] ⟨rfl, trivial⟩ ?_
    refine Goes.loop0 (α := Nat) 140 (fun n => [(0, strV l), (1, .int .i64 i), (4, .pointer (some ⟨g1, 0, none⟩)), (7, .pointer (some ⟨g2, 0, none⟩)), (8, .int .i64 n)]) [(g1, .cells #[.int .i64 0, strV [], .int .i64 0, .int .i64 0] 36 (0, 0)), (g2, .cells #[.int .i64 0, strV [], .int .i64 0, .int .i64 i] 36 (0, 0))] (fun n => 1 ≤ n ∧ i + n ≤ l.length ∧ bhd cDig l (i + n) = bhd cDig l i) (fun n => l.length - n) 1 ⟨Nat.le_refl _, hi, (bhd_in hx hd0).symm⟩ ?_
    rintro n J ⟨hn1, hnl, hb⟩ back
    have hw := wrap_add (a := i) (b := n) (by omega)
    cases hlt0 : decide (IntKind.i64.wrap ((i : Int) + (n : Int)) < (l.length : Int)) with
    | false =>
      have hE0 : bhd cDig l i = i + n := by
        have := of_decide_eq_false hlt0
        rw [hw] at this
        rw [← hb, bhd_end (by omega)]
      have w1 : IntKind.i64.wrap (IntKind.i64.wrap ((i : Int) + (n : Int)) + 1) = ((i + n + 1 : Nat) : Int) := by rw [hw]; exact wrap_nat (by omega)
      cases hl2 : decide (IntKind.i64.wrap (IntKind.i64.wrap ((i : Int) + (n : Int)) + 1) < (l.length : Int)) with
      | false =>
        have hE : numE l i = i + n := by
          have he : l.length ≤ i + n + 1 := by have := of_decide_eq_false hl2; rw [w1] at this; omega
          unfold numE
          rw [hE0, bhd_end he, decide_eq_false (by omega), Bool.false_and]
          rfl
        refine Goes.upto 96 [0, 0, 0, 0, 0, 0] [(false, false), (false, false), (decide (IntKind.i64.wrap (IntKind.i64.wrap ((i : Int) + (n : Int)) + 1) < (l.length : Int)), false), (false, false), (decide (IntKind.i64.wrap ((i : Int) + (n : Int)) < (l.length : Int)), false)] ⟨rfl, rfl, hl2, rfl, hlt0, trivial⟩ ?_
        exact joined n _ ⟨by omega, by omega, hE⟩ (by kernel_rfl) (by kernel_rfl) (by kernel_rfl)
      | true =>
        have he : i + n + 1 < l.length := by have := of_decide_eq_true hl2; rw [w1] at this; omega
        obtain ⟨y, hy⟩ : ∃ y, l[i + n]? = some y := ⟨l[i + n], by simp⟩
        have hy' : l.getD (i + n) 0 = y := by simp [List.getD, hy]
        obtain ⟨z, hz⟩ : ∃ z, l[i + n + 1]? = some z := ⟨l[i + n + 1], by simp⟩
        refine Goes.run [0, 0, 0, 1] [(decide (IntKind.i64.wrap (IntKind.i64.wrap ((i : Int) + (n : Int)) + 1) < (l.length : Int)), true), (false, false), (decide (IntKind.i64.wrap ((i : Int) + (n : Int)) < (l.length : Int)), false)] ⟨hl2, rfl, hlt0, trivial⟩ ?_
        refine Goes.slot 64 (.int .i64 (i + n : Nat)) (u := .int .i64 (IntKind.i64.wrap ((i : Int) + (n : Int)))) (congrArg _ hw) ?_
        refine Goes.val (Instr.index 9 (strV l) (.int .i64 (i + n : Nat))) (.int .u8 (y.toNat : Nat)) (fun w' _ _ => idxB hy w') ?_
        cases h46 : ((y.toNat : Int) == 46) with
        | false =>
          have hE : numE l i = i + n := by
            unfold numE
            rw [hE0, hy', h46, Bool.and_false]
            rfl
          refine Goes.upto 96 [0, 0] [(false, false), ((y.toNat : Int) == 46, false)] ⟨rfl, h46, trivial⟩ ?_
          exact joined n _ ⟨by omega, by omega, hE⟩ (by kernel_rfl) (by kernel_rfl) (by kernel_rfl)
        | true =>
          refine Goes.run [1] [((y.toNat : Int) == 46, true)] ⟨h46, trivial⟩ ?_
          refine Goes.slot 73 (.int .i64 (i + n + 1 : Nat)) (u := .int .i64 (IntKind.i64.wrap (IntKind.i64.wrap ((i : Int) + (n : Int)) + 1))) (congrArg _ w1) ?_
          refine Goes.val (Instr.index 9 (strV l) (.int .i64 (i + n + 1 : Nat))) (.int .u8 (z.toNat : Nat)) (fun w' _ _ => idxB hz w') ?_
          refine Goes.call0 50 #[.int .u8 (z.toNat : Nat)] (.bool (cDig (z.toNat : Nat))) (fun w' _ _ => zdigit_any _ w') ?_
          cases hz1 : cDig (z.toNat : Nat) with
          | false =>
            have hE : numE l i = i + n := by
              unfold numE
              rw [hE0, bhd_out hz hz1, decide_eq_false (by omega), Bool.false_and]
              rfl
            refine Goes.upto 96 [0] [(false, false)] ⟨rfl, trivial⟩ ?_
            exact joined n _ ⟨by omega, by omega, hE⟩ (by kernel_rfl) (by kernel_rfl) (by kernel_rfl)
          | true =>
            have hE1 : numE l i = bhd cDig l (i + n + 1) := by
              have := bhd_adv hz hz1
              unfold numE
              rw [hE0, hy', h46, decide_eq_true (by omega)]
              rfl
            have w2 : IntKind.i64.wrap ((n : Int) + 2) = ((n + 2 : Nat) : Int) := by rw [IntWalk.i64_in _ ⟨by omega, by omega⟩]; omega
            refine Goes.run [1] [(true, true)] ⟨rfl, trivial⟩ ?_
            refine Goes.slot 8 (.int .i64 (n + 2 : Nat)) (u := .int .i64 (IntKind.i64.wrap ((n : Int) + 2))) (congrArg _ w2) ?_
            exact joined2 (n + 2) _ ⟨by omega, by omega, by rw [hE1, bhd_in hz hz1]; rfl⟩ (by kernel_rfl) (by kernel_rfl) (by kernel_rfl)
    | true =>
      have hnl2 : i + n < l.length := by have := of_decide_eq_true hlt0; rw [hw] at this; omega
      obtain ⟨c0, hc0⟩ : ∃ c, l[i + n]? = some c := ⟨l[i + n], by simp⟩
      refine Goes.run [0, 1] [(decide (IntKind.i64.wrap ((i : Int) + (n : Int)) < (l.length : Int)), true)] ⟨hlt0, trivial⟩ ?_
      refine Goes.slot 47 (.int .i64 (i + n : Nat)) (u := .int .i64 (IntKind.i64.wrap ((i : Int) + (n : Int)))) (congrArg _ hw) ?_
      refine Goes.val (Instr.index 9 (strV l) (.int .i64 (i + n : Nat))) (.int .u8 (c0.toNat : Nat)) (fun w' _ _ => idxB hc0 w') ?_
      refine Goes.call0 50 #[.int .u8 (c0.toNat : Nat)] (.bool (cDig (c0.toNat : Nat))) (fun w' _ _ => zdigit_any _ w') ?_
      cases hdc : cDig (c0.toNat : Nat) with
      | true =>
        refine Goes.run [1] [(true, true)] ⟨rfl, trivial⟩ ?_
        refine Goes.slot 8 (.int .i64 (n + 1 : Nat)) (u := .int .i64 (IntKind.i64.wrap ((n : Int) + 1))) (congrArg _ (wrap_nat (by omega))) ?_
        exact back (n + 1) _ ⟨by omega, hnl2, by rw [← hb, bhd_in hc0 hdc]; rfl⟩ (by omega) (by kernel_rfl) (by kernel_rfl) (by kernel_rfl)
      | false =>
        have hE0 : bhd cDig l i = i + n := by rw [← hb, bhd_out hc0 hdc]
        have w1 : IntKind.i64.wrap (IntKind.i64.wrap ((i : Int) + (n : Int)) + 1) = ((i + n + 1 : Nat) : Int) := by rw [hw]; exact wrap_nat (by omega)
        cases hl2 : decide (IntKind.i64.wrap (IntKind.i64.wrap ((i : Int) + (n : Int)) + 1) < (l.length : Int)) with
        | false =>
          have hE : numE l i = i + n := by
            have he : l.length ≤ i + n + 1 := by have := of_decide_eq_false hl2; rw [w1] at this; omega
            unfold numE
            rw [hE0, bhd_end he, decide_eq_false (by omega), Bool.false_and]
            rfl
          refine Goes.upto 96 [0, 0, 0, 0] [(false, false), (false, false), (decide (IntKind.i64.wrap (IntKind.i64.wrap ((i : Int) + (n : Int)) + 1) < (l.length : Int)), false), (false, false)] ⟨rfl, rfl, hl2, rfl, trivial⟩ ?_
          exact joined n _ ⟨by omega, by omega, hE⟩ (by kernel_rfl) (by kernel_rfl) (by kernel_rfl)
        | true =>
          have he : i + n + 1 < l.length := by have := of_decide_eq_true hl2; rw [w1] at this; omega
          obtain ⟨y, hy⟩ : ∃ y, l[i + n]? = some y := ⟨l[i + n], by simp⟩
          have hy' : l.getD (i + n) 0 = y := by simp [List.getD, hy]
          obtain ⟨z, hz⟩ : ∃ z, l[i + n + 1]? = some z := ⟨l[i + n + 1], by simp⟩
          refine Goes.run [0, 1] [(decide (IntKind.i64.wrap (IntKind.i64.wrap ((i : Int) + (n : Int)) + 1) < (l.length : Int)), true), (false, false)] ⟨hl2, rfl, trivial⟩ ?_
          refine Goes.slot 64 (.int .i64 (i + n : Nat)) (u := .int .i64 (IntKind.i64.wrap ((i : Int) + (n : Int)))) (congrArg _ hw) ?_
          refine Goes.val (Instr.index 9 (strV l) (.int .i64 (i + n : Nat))) (.int .u8 (y.toNat : Nat)) (fun w' _ _ => idxB hy w') ?_
          cases h46 : ((y.toNat : Int) == 46) with
          | false =>
            have hE : numE l i = i + n := by
              unfold numE
              rw [hE0, hy', h46, Bool.and_false]
              rfl
            refine Goes.upto 96 [0, 0] [(false, false), ((y.toNat : Int) == 46, false)] ⟨rfl, h46, trivial⟩ ?_
            exact joined n _ ⟨by omega, by omega, hE⟩ (by kernel_rfl) (by kernel_rfl) (by kernel_rfl)
          | true =>
            refine Goes.run [1] [((y.toNat : Int) == 46, true)] ⟨h46, trivial⟩ ?_
            refine Goes.slot 73 (.int .i64 (i + n + 1 : Nat)) (u := .int .i64 (IntKind.i64.wrap (IntKind.i64.wrap ((i : Int) + (n : Int)) + 1))) (congrArg _ w1) ?_
            refine Goes.val (Instr.index 9 (strV l) (.int .i64 (i + n + 1 : Nat))) (.int .u8 (z.toNat : Nat)) (fun w' _ _ => idxB hz w') ?_
            refine Goes.call0 50 #[.int .u8 (z.toNat : Nat)] (.bool (cDig (z.toNat : Nat))) (fun w' _ _ => zdigit_any _ w') ?_
            cases hz1 : cDig (z.toNat : Nat) with
            | false =>
              have hE : numE l i = i + n := by
                unfold numE
                rw [hE0, bhd_out hz hz1, decide_eq_false (by omega), Bool.false_and]
                rfl
              refine Goes.upto 96 [0] [(false, false)] ⟨rfl, trivial⟩ ?_
              exact joined n _ ⟨by omega, by omega, hE⟩ (by kernel_rfl) (by kernel_rfl) (by kernel_rfl)
            | true =>
              have hE1 : numE l i = bhd cDig l (i + n + 1) := by
                have := bhd_adv hz hz1
                unfold numE
                rw [hE0, hy', h46, decide_eq_true (by omega)]
                rfl
              have w2 : IntKind.i64.wrap ((n : Int) + 2) = ((n + 2 : Nat) : Int) := by rw [IntWalk.i64_in _ ⟨by omega, by omega⟩]; omega
              refine Goes.run [1] [(true, true)] ⟨rfl, trivial⟩ ?_
              refine Goes.slot 8 (.int .i64 (n + 2 : Nat)) (u := .int .i64 (IntKind.i64.wrap ((n : Int) + 2))) (congrArg _ w2) ?_
              exact joined2 (n + 2) _ ⟨by omega, by omega, by rw [hE1, bhd_in hz hz1]; rfl⟩ (by kernel_rfl) (by kernel_rfl) (by kernel_rfl)
end Go.Proofs.YtommhgmlblecnaaGreatDoor
namespace Go.Proofs.YtommhgmlblecnaaGreatDoor
open Go Go.RowKit

def sgs : List UInt8 := [40, 41, 44, 59, 61, 60, 43, 45, 42, 47]
theorem sgs_no (c : UInt8) : decide (Lib.indexByte sgs c < 0) = !(sgs.contains c) := by
  have key : ∀ n : Fin 256, decide (Lib.indexByte sgs (UInt8.ofNat n.1) < 0) = !(sgs.contains (UInt8.ofNat n.1)) := by decide +kernel
  have := key ⟨c.toNat, c.toNat_lt⟩
  simpa using this
theorem cls_dig {z : Int} (h : cDig z = true) : cLet z = false ∧ cCap z = false := by
  unfold cDig at h
  rw [Bool.and_eq_true, decide_eq_true_eq, decide_eq_true_eq] at h
  unfold cLet cCap
  exact ⟨by rw [decide_eq_false (by omega)]; rfl, by rw [decide_eq_false (by omega)]; rfl⟩
theorem cls_let {z : Int} (h : cCap z = true) : cLet z = false ∧ cDig z = false ∧ (z == 34) = false := by
  unfold cCap at h
  rw [Bool.and_eq_true, decide_eq_true_eq, decide_eq_true_eq] at h
  unfold cLet cDig
  exact ⟨by rw [decide_eq_false (by omega)]; rfl, by rw [Bool.and_eq_false_iff]; exact .inr (decide_eq_false (by omega)), by rw [beq_eq_false_iff_ne]; omega⟩
theorem pre_two (l : List UInt8) (i : Nat) (x : UInt8) (hx : l[i]? = some x) : Lib.hasPrefix (l.drop i) [60, 61] = (((x.toNat : Int) == 60) && (match l[i + 1]? with | some y => ((y.toNat : Int) == 61) | none => false)) := by
  have hi := (List.getElem?_eq_some_iff.1 hx).1
  have key : ∀ (a b : UInt8), (a == b) = ((b.toNat : Int) == (a.toNat : Int)) := by
    intro a b
    rw [Bool.eq_iff_iff, beq_iff_eq, beq_iff_eq]
    constructor
    · intro h; rw [h]
    · intro h; exact UInt8.toNat_inj.1 (by omega)
  have hd : l.drop i = x :: l.drop (i + 1) := by
    rw [List.drop_eq_getElem_cons hi]
    congr 1
    exact (List.getElem?_eq_some_iff.1 hx).2
  unfold Lib.hasPrefix
  rw [hd, List.isPrefixOf_cons_cons, key]
  congr 1
  cases hy : l[i + 1]? with
  | none =>
    have : l.drop (i + 1) = [] := List.drop_of_length_le (by rw [List.getElem?_eq_none_iff] at hy; exact hy)
    rw [this]
    rfl
  | some y =>
    have hi2 := (List.getElem?_eq_some_iff.1 hy).1
    have : l.drop (i + 1) = y :: l.drop (i + 1 + 1) := by
      rw [List.drop_eq_getElem_cons hi2]
      congr 1
      exact (List.getElem?_eq_some_iff.1 hy).2
    rw [this, List.isPrefixOf_cons_cons, key]
    simp
/-- What is to be done from where a sign is looked for. -/
def K27of (b : Option Code) : List TI :=
  match b with
  | some (.seq _ (.seq _ (.seq _ (.seq _ (.seq (.region _ ops _) r))))) => [.reg ops ops.toList [], .code r]
  | _ => []
noncomputable def K27 : List TI := K27of Tryz.f27.body
set_option maxRecDepth 100000 in
set_option maxHeartbeats 1000000 in
seal rn rnS K27 Goes ans atEnd put0 putM opened putA0 oneSt st0 keep putA nameT nbrT quoT parseL dPar in
theorem ztoken_any (l : List UInt8) (i : Nat) (w : World) (hl : l.length ≤ 16384) (hi : i < l.length) : Calls Tryz.prog 27 #[strV l, .int .i64 i] w (RTok i (anyT l i) w) := by
  obtain ⟨x, hx⟩ : ∃ x, l[i]? = some x := ⟨l[i], by simp⟩
  have hx' : l.getD i 0 = x := by simp [List.getD, hx]
  obtain ⟨Q, hQ⟩ : ∃ Q, anyT l i = Q := ⟨_, rfl⟩
  rw [hQ]
  unfold anyT at hQ
  rw [hx'] at hQ
  refine Goes.begin Tryz.func27 [] (fun _ => True) (fun j b o h => by cases h) (by simp [Mem.ids]) (fun _ _ => trivial) ?_
  refine Goes.run1 [] [] trivial fun g1 => ?_
  refine Goes.val (Instr.index 9 (strV l) (.int .i64 i)) (.int .u8 (x.toNat : Nat)) (fun w' _ _ => idxB hx w') ?_
  refine Goes.run [] [] trivial ?_
  refine Goes.call0 48 #[.int .u8 (x.toNat : Nat)] (.bool (cLet (x.toNat : Nat))) (fun w' _ _ => zsmall_any _ w') ?_
  cases b1 : cLet (x.toNat : Nat) with
  | true =>
    rw [b1, cond_true] at hQ
    refine Goes.run [1] [(true, true)] ⟨rfl, trivial⟩ ?_
    refine Goes.callG [g1] 49 #[strV l, .int .i64 i] fun w1 _ _ => (znamed_any l i w1 hl hi (by rw [hx']; exact b1)).mono fun _ w2 ⟨hB, k, tx, n, a, m, e1, hq⟩ => ⟨_, fun _ => True, e1, hB, fun _ _ => trivial, ?_⟩
    rw [hQ] at hq ⊢
    refine Goes.run [0] [] trivial ?_
    exact Goes.ret [0] (.tuple #[.agg #[.int .i64 k, strV tx, .int .i64 n, .int .i64 a], .int .i64 m, .int .i64 Q.2]) fun w' hm hI => ⟨ch_below hI.now.1.1, k, tx, n, a, m, rfl, hq⟩
  | false =>
  rw [b1, cond_false] at hQ
  refine Goes.run [0] [(false, false)] ⟨rfl, trivial⟩ ?_
  refine Goes.call0 50 #[.int .u8 (x.toNat : Nat)] (.bool (cDig (x.toNat : Nat))) (fun w' _ _ => zdigit_any _ w') ?_
  cases b2 : cDig (x.toNat : Nat) with
  | true =>
    rw [(cls_dig b2).2, cond_false, b2, cond_true] at hQ
    refine Goes.run [1] [(true, true)] ⟨rfl, trivial⟩ ?_
    refine Goes.callG [g1] 51 #[strV l, .int .i64 i] fun w1 _ _ => (znumber_any l i w1 hl hi (by rw [hx']; exact b2)).mono fun _ w2 ⟨hB, k, tx, n, a, m, e1, hq⟩ => ⟨_, fun _ => True, e1, hB, fun _ _ => trivial, ?_⟩
    rw [hQ] at hq ⊢
    refine Goes.run [0] [] trivial ?_
    exact Goes.ret [0] (.tuple #[.agg #[.int .i64 k, strV tx, .int .i64 n, .int .i64 a], .int .i64 m, .int .i64 Q.2]) fun w' hm hI => ⟨ch_below hI.now.1.1, k, tx, n, a, m, rfl, hq⟩
  | false =>
  rw [b2] at hQ
  cases b3 : ((x.toNat : Int) == 34) with
  | true =>
    have hcap : cCap (x.toNat : Nat) = false := by
      cases h : cCap (x.toNat : Nat) with
      | false => rfl
      | true => have := (cls_let h).2.2; rw [b3] at this; cases this
    rw [hcap, cond_false, cond_false, b3, cond_true] at hQ
    refine Goes.run [0, 1] [((x.toNat : Int) == 34, true), (false, false)] ⟨b3, rfl, trivial⟩ ?_
    refine Goes.callG [g1] 52 #[strV l, .int .i64 i] fun w1 _ _ => (zquoted_any l i w1 hl hi).mono fun _ w2 ⟨hB, k, tx, n, a, m, e1, hq⟩ => ⟨_, fun _ => True, e1, hB, fun _ _ => trivial, ?_⟩
    rw [hQ] at hq ⊢
    refine Goes.run [0] [] trivial ?_
    exact Goes.ret [0] (.tuple #[.agg #[.int .i64 k, strV tx, .int .i64 n, .int .i64 a], .int .i64 m, .int .i64 Q.2]) fun w' hm hI => ⟨ch_below hI.now.1.1, k, tx, n, a, m, rfl, hq⟩
  | false =>
  rw [b3] at hQ
  refine Goes.run [0, 0] [((x.toNat : Int) == 34, false), (false, false)] ⟨b3, rfl, trivial⟩ ?_
  refine Goes.call0 53 #[.int .u8 (x.toNat : Nat)] (.bool (cCap (x.toNat : Nat))) (fun w' _ _ => zgreat_any _ w') ?_
  cases b4 : cCap (x.toNat : Nat) with
  | true =>
    rw [b4, cond_true] at hQ
    unfold curT at hQ
    refine Goes.run [1] [(true, true)] ⟨rfl, trivial⟩ ?_
    refine Goes.loop0 (α := Nat) 109 (fun n => [(0, strV l), (1, .int .i64 i), (4, .pointer (some ⟨g1, 0, none⟩)), (8, .int .i64 n)]) [(g1, .cells #[.int .i64 0, strV [], .int .i64 0, .int .i64 0] 36 (0, 0))] (fun n => 1 ≤ n ∧ i + n ≤ l.length ∧ bhd cCap l (i + n) = bhd cCap l i) (fun n => l.length - n) 1 ⟨Nat.le_refl _, hi, (bhd_in hx b4).symm⟩ ?_
    rintro n J ⟨hn1, hn, hb⟩ back
    have hw := wrap_add (a := i) (b := n) (by omega)
    have hcut := sliceS (l := l) (i := i) (j := i + n) (by omega) hn
    have hthree : ∀ E : Nat, E = i + n → (((E : Int) - (i : Int)) != 3) = ((n : Int) != 3) := by
      intro E hE
      rw [hE]
      congr 1
      omega
    cases hlt : decide (IntKind.i64.wrap ((i : Int) + (n : Int)) < (l.length : Int)) with
    | false =>
      have hbe : bhd cCap l i = i + n := by
        have := of_decide_eq_false hlt
        rw [hw] at this
        rw [← hb, bhd_end (by omega)]
      rw [hthree _ hbe, hbe] at hQ
      cases h3 : ((n : Int) != 3) with
      | true =>
        rw [h3, cond_true] at hQ
        refine Goes.run [0, 0, 0, 1, 0] [((n : Int) != 3, true), (false, false), (decide (IntKind.i64.wrap ((i : Int) + (n : Int)) < (l.length : Int)), false)] ⟨h3, rfl, hlt, trivial⟩ ?_
        refine Goes.ret [0] (.tuple #[.agg #[.int .i64 0, strV [], .int .i64 0, .int .i64 0], .int .i64 (0 : Nat), .int .i64 73]) fun w' hm hI => ?_
        rw [← hQ]
        exact rtok_bad (by decide) (ch_below hI.now.1)
      | false =>
        rw [h3, cond_false] at hQ
        refine Goes.run [0, 0, 0, 0] [((n : Int) != 3, false), (false, false), (decide (IntKind.i64.wrap ((i : Int) + (n : Int)) < (l.length : Int)), false)] ⟨h3, rfl, hlt, trivial⟩ ?_
        refine Goes.slot 67 (.int .i64 (i + n : Nat)) (u := .int .i64 (IntKind.i64.wrap ((i : Int) + (n : Int)))) (congrArg _ hw) ?_
        refine Goes.val (Instr.sliceAt 9 (strV l) (some (.int .i64 i)) (some (.int .i64 (i + n : Nat))) none) (strV (cutL l i (i + n))) (fun w' _ _ => hcut w') ?_
        refine Goes.run [0] [] trivial ?_
        refine Goes.ret [0] (.tuple #[.agg #[.int .i64 4, strV (cutL l i (i + n)), .int .i64 0, .int .i64 i], .int .i64 n, .int .i64 0]) fun w' hm hI => ?_
        rw [← hQ]
        exact rtok_good rfl (ch_below hI.now.1)
    | true =>
      have hnl2 : i + n < l.length := by have := of_decide_eq_true hlt; rw [hw] at this; omega
      obtain ⟨y, hy⟩ : ∃ y, l[i + n]? = some y := ⟨l[i + n], by simp⟩
      refine Goes.run [0, 1] [(decide (IntKind.i64.wrap ((i : Int) + (n : Int)) < (l.length : Int)), true)] ⟨hlt, trivial⟩ ?_
      refine Goes.slot 54 (.int .i64 (i + n : Nat)) (u := .int .i64 (IntKind.i64.wrap ((i : Int) + (n : Int)))) (congrArg _ hw) ?_
      refine Goes.val (Instr.index 9 (strV l) (.int .i64 (i + n : Nat))) (.int .u8 (y.toNat : Nat)) (fun w' _ _ => idxB hy w') ?_
      refine Goes.call0 53 #[.int .u8 (y.toNat : Nat)] (.bool (cCap (y.toNat : Nat))) (fun w' _ _ => zgreat_any _ w') ?_
      cases hcy : cCap (y.toNat : Nat) with
      | true =>
        refine Goes.run [1] [(true, true)] ⟨rfl, trivial⟩ ?_
        refine Goes.slot 8 (.int .i64 (n + 1 : Nat)) (u := .int .i64 (IntKind.i64.wrap ((n : Int) + 1))) (congrArg _ (wrap_nat (by omega))) ?_
        exact back (n + 1) _ ⟨by omega, hnl2, by rw [← hb, bhd_in hy hcy]; rfl⟩ (by omega) (by kernel_rfl) (by kernel_rfl) (by kernel_rfl)
      | false =>
        have hbe : bhd cCap l i = i + n := by rw [← hb, bhd_out hy hcy]
        rw [hthree _ hbe, hbe] at hQ
        cases h3 : ((n : Int) != 3) with
        | true =>
          rw [h3, cond_true] at hQ
          refine Goes.run [0, 1, 0] [((n : Int) != 3, true), (false, false)] ⟨h3, rfl, trivial⟩ ?_
          refine Goes.ret [0] (.tuple #[.agg #[.int .i64 0, strV [], .int .i64 0, .int .i64 0], .int .i64 (0 : Nat), .int .i64 73]) fun w' hm hI => ?_
          rw [← hQ]
          exact rtok_bad (by decide) (ch_below hI.now.1)
        | false =>
          rw [h3, cond_false] at hQ
          refine Goes.run [0, 0] [((n : Int) != 3, false), (false, false)] ⟨h3, rfl, trivial⟩ ?_
          refine Goes.slot 67 (.int .i64 (i + n : Nat)) (u := .int .i64 (IntKind.i64.wrap ((i : Int) + (n : Int)))) (congrArg _ hw) ?_
          refine Goes.val (Instr.sliceAt 9 (strV l) (some (.int .i64 i)) (some (.int .i64 (i + n : Nat))) none) (strV (cutL l i (i + n))) (fun w' _ _ => hcut w') ?_
          refine Goes.run [0] [] trivial ?_
          refine Goes.ret [0] (.tuple #[.agg #[.int .i64 4, strV (cutL l i (i + n)), .int .i64 0, .int .i64 i], .int .i64 n, .int .i64 0]) fun w' hm hI => ?_
          rw [← hQ]
          exact rtok_good rfl (ch_below hI.now.1)
  | false =>
  rw [b4] at hQ
  simp only [cond_false] at hQ
  unfold signT at hQ
  rw [hx', pre_two l i x hx, show ([40, 41, 44, 59, 61, 60, 43, 45, 42, 47] : List UInt8) = sgs from rfl, sgs_no] at hQ
  have w1 := wrap_nat (k := i) (by omega)
  refine Goes.withJoin (α := Unit) K27 109 (fun _ => [(0, strV l), (1, .int .i64 i), (4, .pointer (some ⟨g1, 0, none⟩)), (7, .int .u8 (x.toNat : Nat))]) (fun _ => [(g1, .cells #[.int .i64 0, strV [], .int .i64 0, .int .i64 0] 36 (0, 0))]) (fun w' => Ch [] w w' ∧ True) (fun _ => (((x.toNat : Int) == 60) && (match l[i + 1]? with | some y => ((y.toNat : Int) == 61) | none => false)) = false) ?_ fun joined => ?_
  · rintro - J0 h2
    rw [h2, cond_false] at hQ
    refine Goes.run [] [] trivial ?_
    refine Goes.loop0 (α := Nat) 109 (fun j => [(1, .int .i64 i), (4, .pointer (some ⟨g1, 0, none⟩)), (7, .int .u8 (x.toNat : Nat)), (9, strV sgs), (10, .int .i64 j)]) [(g1, .cells #[.int .i64 0, strV [], .int .i64 0, .int .i64 0] 36 (0, 0))] (fun j => j ≤ 10 ∧ (sgs.take j).contains x = false) (fun j => 10 - j) 0 ⟨Nat.zero_le _, rfl⟩ ?_
    rintro j J ⟨hj, hno⟩ back
    cases hlt : decide ((j : Int) < 10) with
    | false =>
      obtain rfl : j = 10 := by have := of_decide_eq_false hlt; omega
      have hno' : sgs.contains x = false := hno
      rw [hno'] at hQ
      refine Goes.run [0, 0, 0] [(decide (((10 : Nat) : Int) < 10), false)] ⟨hlt, trivial⟩ ?_
      refine Goes.ret [0] (.tuple #[.agg #[.int .i64 0, strV [], .int .i64 0, .int .i64 0], .int .i64 (0 : Nat), .int .i64 71]) fun w' hm hI => ?_
      rw [← hQ]
      exact rtok_bad (by decide) (ch_below hI.now.1)
    | true =>
      have hjl : j < 10 := by have := of_decide_eq_true hlt; omega
      obtain ⟨c, hc⟩ : ∃ c, sgs[j]? = some c := ⟨sgs[j]'(by show j < 10; exact hjl), List.getElem?_eq_getElem _⟩
      refine Goes.run [0, 1] [(decide ((j : Int) < 10), true)] ⟨hlt, trivial⟩ ?_
      refine Goes.val (Instr.index 9 (strV sgs) (.int .i64 j)) (.int .u8 (c.toNat : Nat)) (fun w' _ _ => idxB hc w') ?_
      cases hcx : ((c.toNat : Int) == (x.toNat : Int)) with
      | true =>
        have hcx0 : (c.toNat : Int) = (x.toNat : Int) := by simpa using hcx
        have hcx' : c = x := UInt8.toNat_inj.1 (by omega)
        have hin : sgs.contains x = true := by rw [List.contains_iff_mem, ← hcx']; exact List.mem_of_getElem? hc
        rw [hin] at hQ
        have w2 := wrap_nat (k := j) (by omega)
        refine Goes.run [1] [((c.toNat : Int) == (x.toNat : Int), true)] ⟨hcx, trivial⟩ ?_
        refine Goes.slot 104 (.int .i64 (j + 1 : Nat)) (u := .int .i64 (IntKind.i64.wrap ((j : Int) + 1))) (congrArg _ w2) ?_
        refine Goes.val (Instr.sliceAt 9 (strV sgs) (some (.int .i64 j)) (some (.int .i64 (j + 1 : Nat))) none) (strV (cutL sgs j (j + 1))) (fun w' _ _ => sliceS (by omega) (by show j + 1 ≤ 10; omega) w') ?_
        refine Goes.run [0] [] trivial ?_
        refine Goes.ret [0] (.tuple #[.agg #[.int .i64 8, strV (cutL sgs j (j + 1)), .int .i64 0, .int .i64 i], .int .i64 (1 : Nat), .int .i64 0]) fun w' hm hI => ?_
        rw [← hQ]
        exact rtok_good rfl (ch_below hI.now.1)
      | false =>
        refine Goes.run [0] [((c.toNat : Int) == (x.toNat : Int), false)] ⟨hcx, trivial⟩ ?_
        refine Goes.slot 10 (.int .i64 (j + 1 : Nat)) (u := .int .i64 (IntKind.i64.wrap ((j : Int) + 1))) (congrArg _ (wrap_nat (by omega))) ?_
        refine back (j + 1) _ ⟨hjl, ?_⟩ (by omega) (by kernel_rfl) (by kernel_rfl) (by kernel_rfl)
        have hne : ¬ x = c := fun e => by rw [e, beq_self_eq_true] at hcx; cases hcx
        rw [List.take_add_one, hc]
        simp only [Option.toList_some, List.contains_eq_mem, List.mem_append, List.mem_singleton, hne, or_false, decide_eq_false_iff_not] at hno ⊢
        exact hno
  · cases h60 : ((x.toNat : Int) == 60) with
    | false =>
      rw [h60, Bool.false_and] at joined
      refine Goes.upto 9 [0, 0, 0, 0] [(false, false), (false, false), ((x.toNat : Int) == 60, false), (false, false)] ⟨rfl, rfl, h60, rfl, trivial⟩ ?_
      exact joined () _ rfl (by kernel_rfl) (by kernel_rfl) (by kernel_rfl)
    | true =>
      rw [h60, Bool.true_and] at joined hQ
      cases hlt : decide (IntKind.i64.wrap ((i : Int) + 1) < (l.length : Int)) with
      | false =>
        have hn : l[i + 1]? = none := List.getElem?_eq_none (by have := of_decide_eq_false hlt; rw [w1] at this; omega)
        rw [hn] at joined
        refine Goes.upto 9 [0, 1, 0, 0] [(false, false), (decide (IntKind.i64.wrap ((i : Int) + 1) < (l.length : Int)), false), ((x.toNat : Int) == 60, true), (false, false)] ⟨rfl, hlt, h60, rfl, trivial⟩ ?_
        exact joined () _ rfl (by kernel_rfl) (by kernel_rfl) (by kernel_rfl)
      | true =>
        have hnl : i + 1 < l.length := by have := of_decide_eq_true hlt; rw [w1] at this; omega
        obtain ⟨y, hy⟩ : ∃ y, l[i + 1]? = some y := ⟨l[i + 1], by simp⟩
        rw [hy] at joined hQ
        simp only at joined hQ
        refine Goes.run [0, 1, 1] [(decide (IntKind.i64.wrap ((i : Int) + 1) < (l.length : Int)), true), ((x.toNat : Int) == 60, true), (false, false)] ⟨hlt, h60, rfl, trivial⟩ ?_
        refine Goes.slot 84 (.int .i64 (i + 1 : Nat)) (u := .int .i64 (IntKind.i64.wrap ((i : Int) + 1))) (congrArg _ w1) ?_
        refine Goes.val (Instr.index 9 (strV l) (.int .i64 (i + 1 : Nat))) (.int .u8 (y.toNat : Nat)) (fun w' _ _ => idxB hy w') ?_
        cases h61 : ((y.toNat : Int) == 61) with
        | false =>
          refine Goes.upto 9 [0] [((y.toNat : Int) == 61, false)] ⟨h61, trivial⟩ ?_
          exact joined () _ h61 (by kernel_rfl) (by kernel_rfl) (by kernel_rfl)
        | true =>
          rw [h61, cond_true] at hQ
          refine Goes.run [1, 0] [((y.toNat : Int) == 61, true)] ⟨h61, trivial⟩ ?_
          refine Goes.ret [0] (.tuple #[.agg #[.int .i64 8, strV [60, 61], .int .i64 0, .int .i64 i], .int .i64 (2 : Nat), .int .i64 0]) fun w' hm hI => ?_
          rw [← hQ]
          exact rtok_good rfl (ch_below hI.now.1)
end Go.Proofs.YtommhgmlblecnaaGreatDoor
namespace Go.Proofs.YtommhgmlblecnaaGreatDoor
open Go Go.RowKit

/-- A token of the document. -/
structure RK where
  k : Int
  tx : List UInt8
  n : Int
  a : Int
def RK.cs (t : RK) : List Value := [.int .i64 t.k, strV t.tx, .int .i64 t.n, .int .i64 t.a]
theorem RK.cs_one (u : RK) : ∀ x ∈ u.cs, x.oneCell' = true := by
  intro x hx
  simp only [RK.cs, List.mem_cons, List.not_mem_nil, or_false] at hx
  rcases hx with rfl | rfl | rfl | rfl <;> rfl
theorem rk_flat : ∀ (ts : List RK) (i : Nat) (t : RK), ts[i]? = some t → ∀ j, j < 4 → (ts.flatMap RK.cs)[i * 4 + j]? = t.cs[j]?
  | [], i, t, h, _, _ => by simp at h
  | y :: r, 0, t, h, j, hj => by
    simp at h
    subst h
    simp only [List.flatMap_cons, Nat.zero_mul, Nat.zero_add]
    rw [List.getElem?_append_left (by simp [RK.cs]; omega)]
  | y :: r, i + 1, t, h, j, hj => by
    have h1 := rk_flat r i t (by simpa using h) j hj
    simp only [List.flatMap_cons]
    rw [List.getElem?_append_right (by simp [RK.cs]; omega)]
    have : (i + 1) * 4 + j - (y.cs).length = i * 4 + j := by simp [RK.cs]; omega
    rw [this]
    exact h1
/-- The document's tokens lie in the block b. -/
def RTks (w : World) (b : Nat) (rs : List RK) : Prop := ∃ cur z, w.heap[b]? = some (.cells cur 36 z) ∧ ∀ i t, rs[i]? = some t → ∀ j, j < 4 → cur[i * 4 + j]? = t.cs[j]?
theorem rtks_row {w : World} {base g c n : Nat} {ts : List RK} (hn : ts.length = n) (h : w.ownsRow base 36 4 (.slice (some ⟨g, 0, none⟩) n c) n (ts.flatMap RK.cs)) : RTks w g ts ∧ base ≤ g := by
  rcases h.2 with ⟨h0, -⟩ | ⟨g', cap, cur, e, hb, hg, -, -, -, h4⟩
  · cases h0
  · cases e
    refine ⟨⟨cur, (0, 0), hg, fun i t hi j hj => ?_⟩, hb⟩
    have hi' := (List.getElem?_eq_some_iff.1 hi).1
    rw [← rk_flat ts i t hi j hj, ← h4, List.getElem?_take_of_lt (by omega)]
    simp
theorem skip_end {l : List UInt8} {i : Nat} (h : l.length ≤ i) : skip l i = i := by
  unfold skip skipF
  rw [List.getElem?_eq_none h]
theorem skip_blank {l : List UInt8} {i : Nat} {c : UInt8} (h : l[i]? = some c) (hc : cBlank (c.toNat : Nat) = true) : skip l i = skip l (i + 1) := by
  conv => lhs; unfold skip skipF
  rw [h]
  simp only [hc, cond_true]
  exact skipF_fuel l _ _ _ (by omega) (by omega)
theorem skip_rem {l : List UInt8} {i : Nat} {c : UInt8} (h : l[i]? = some c) (hc : cBlank (c.toNat : Nat) = false) (h35 : ((c.toNat : Int) == 35) = true) : skip l i = skip l (bhd cLine l i) := by
  conv => lhs; unfold skip skipF
  rw [h]
  simp only [hc, cond_false, h35, cond_true]
  have h35' : (c.toNat : Int) = 35 := by simpa using h35
  have := bhd_adv h (C := cLine) (by unfold cLine; rw [h35']; rfl)
  exact skipF_fuel l _ _ _ (by omega) (by omega)
theorem skip_at {l : List UInt8} {i : Nat} {c : UInt8} (h : l[i]? = some c) (hc : cBlank (c.toNat : Nat) = false) (h35 : ((c.toNat : Int) == 35) = false) : skip l i = i := by
  unfold skip skipF
  rw [h]
  simp only [hc, cond_false, h35]
/-- A token that is right begins where it stands. -/
def AtI (i : Nat) (q : Tk × Int) : Prop := q.2 = 0 → q.1.a = i
theorem AtI.bad {i : Nat} {t : Tk} {n : Int} (h : n ≠ 0) : AtI i (t, n) := fun h1 => absurd h1 h
theorem AtI.good {i : Nat} {k : Int} {x : List UInt8} {n e : Int} : AtI i (⟨k, x, n, i, e⟩, 0) := fun _ => rfl
theorem AtI.ite {i : Nat} {c : Bool} {q r : Tk × Int} (h1 : AtI i q) (h2 : AtI i r) : AtI i (bif c then q else r) := by
  cases c with
  | true => exact h1
  | false => exact h2
theorem anyT_at {l : List UInt8} {i : Nat} : AtI i (anyT l i) := by
  refine AtI.ite (AtI.ite (AtI.ite AtI.good (AtI.bad (by decide))) (AtI.ite AtI.good (AtI.bad (by decide)))) (AtI.ite (AtI.ite (AtI.bad (by decide)) AtI.good) (AtI.ite (AtI.ite (AtI.bad (by decide)) ?_) (AtI.ite (AtI.ite (AtI.bad (by decide)) (AtI.ite AtI.good (AtI.bad (by decide)))) (AtI.ite AtI.good (AtI.ite (AtI.bad (by decide)) AtI.good)))))
  unfold nodT
  cases lkD (l.drop i) <;> exact fun _ => rfl
/-- A loop's state. -/
structure SL where
  i : Nat
  rs : List RK
  ts : List Tk
  a : Option Addr
  c : Nat
  f : Nat
set_option maxRecDepth 100000 in
set_option maxHeartbeats 4000000 in
seal rn Goes ans atEnd put0 putM opened putA0 oneSt st0 keep in
theorem scan_any (l : List UInt8) (w : World) {L : List Nat} (hL : ∀ x ∈ L, x < w.heap.size) : Calls Tryz.prog 13 #[strV l] w fun e w' => Below w.heap.size w w' ∧ ∃ v, e = .returned (.tuple #[v, .int .i64 (prt l).2.2, .int .i64 (prt l).2.1]) ∧ ((prt l).2.1 = 0 → ∃ b c rs, v = .slice (some ⟨b, 0, none⟩) (rs : List RK).length c ∧ rs.map RK.a = (prt l).1.map Tk.a ∧ Stay L w' (fun w => RTks w b rs)) := by
  refine Goes.begin Tryz.func13 [] (fun _ => True) (fun j b o h => by cases h) (by simp [Mem.ids]) (fun _ _ => trivial) ?_
  unfold prt
  cases h0 : decide ((l.length : Int) > 16384) with
  | true =>
    refine Goes.run [1] [(decide ((l.length : Int) > 16384), true)] ⟨h0, trivial⟩ ?_
    exact Goes.ret [] (.tuple #[.slice none 0 0, .int .i64 0, .int .i64 70]) fun w' hm hI => ⟨below_end (m := []) (fun j b o h => by cases h) hI.now.1 hm (by kernel_rfl), _, rfl, fun h => absurd h (show (70 : Int) ≠ 0 by decide)⟩
  | false =>
  have hl : l.length ≤ 16384 := by have := of_decide_eq_false h0; omega
  refine Goes.run [0] [(decide ((l.length : Int) > 16384), false)] ⟨h0, trivial⟩ ?_
  have hs0 := skip_in l (Nat.zero_le l.length)
  obtain ⟨R, hR⟩ : ∃ R, prtF l (l.length + 1) (skip l 0) [] = R := ⟨_, rfl⟩
  simp only [cond_false]
  rw [hR]
  refine Goes.loop (α := SL) 67 (fun q => [(0, strV l), (2, .slice none 0 0), (3, .int .i64 0), (4, .int .i64 0), (5, .slice q.a q.rs.length q.c), (6, .int .i64 q.i)]) (fun _ => []) (fun q w' => Ch [] w w' ∧ w'.ownsRow w.heap.size 36 4 (.slice q.a q.rs.length q.c) q.rs.length (q.rs.flatMap RK.cs)) (fun q => q.i ≤ l.length ∧ prtF l q.f (skip l q.i) q.ts = R ∧ l.length + 1 ≤ q.f + skip l q.i ∧ q.ts.length ≤ 8192 ∧ q.rs.map RK.a = q.ts.map Tk.a) (fun q => l.length - q.i) ⟨0, [], [], none, 0, l.length + 1⟩ ⟨Nat.zero_le _, hR, Nat.le_add_right _ _, by simp, rfl⟩ (fun w h => ⟨h.1, by simp, .inl ⟨rfl, rfl⟩⟩) ?_
  rintro ⟨i, rs, ts, a, c, f⟩ J ⟨hi, hp, hf, hn, hm⟩ back
  simp only at hi hp hf hn hm ⊢
  obtain ⟨n, hn'⟩ : ∃ n, rs.length = n := ⟨_, rfl⟩
  have hn2 : ts.length = n := by have := congrArg List.length hm; simp only [List.length_map] at this; omega
  rw [hn']
  cases hlt : decide ((i : Int) < (l.length : Int)) with
  | false =>
    have hge : l.length ≤ i := by have := of_decide_eq_false hlt; omega
    rw [skip_end hge] at hp hf
    obtain ⟨f, rfl⟩ : ∃ f', f = f' + 1 := ⟨f - 1, by omega⟩
    rw [prtF_end hge] at hp
    refine Goes.run1 [0, 0] [(decide ((i : Int) < (l.length : Int)), false)] ⟨hlt, trivial⟩ fun g3 => ?_
    refine Goes.append (I0 := fun w' => Ch [] w w') w.heap.size 32 36 32 4 40 (.slice a n c) n (rs.flatMap RK.cs) 0 g3 1 1 (RK.cs ⟨0, [], 0, l.length⟩) 36 (0, 0) (fun w' h => ⟨h.1, h.2, h.1.size⟩) (fun w3 w4 h1 hB => ch_more h1 hB) rfl (RK.cs_one _) (by decide) (by unfold maxLen; omega) (by omega) fun a' c' => ?_
    refine Goes.run [] [] trivial ?_
    refine Goes.ret [] (.tuple #[.slice a' (n + 1) c', .int .i64 0, .int .i64 0]) fun w' hm' hI => ⟨below_end (m := []) (fun j b o h => by cases h) hI.now.1 hm' (by kernel_rfl), _, by rw [← hp], fun _ => ?_⟩
    subst hp
    have ho := hI.now.2
    obtain ⟨g, rfl⟩ : ∃ g, a' = some ⟨g, 0, none⟩ := by
      rcases ho.2 with ⟨h, -⟩ | ⟨g, cap, cur, e, -⟩
      · cases h
      · cases e; exact ⟨g, rfl⟩
    have hfl : rs.flatMap RK.cs ++ RK.cs (⟨0, [], 0, l.length⟩ : RK) = (rs ++ [(⟨0, [], 0, l.length⟩ : RK)]).flatMap RK.cs := by simp
    rw [hfl] at ho
    obtain ⟨hT, hgB⟩ := rtks_row (by simp [hn']) ho
    refine ⟨g, c', rs ++ [⟨0, [], 0, l.length⟩], by simp [hn'], by simp [hm, endK], fun w3 h3 => ?_⟩
    obtain ⟨cur, z, hb, hr⟩ := hT
    exact ⟨cur, z, (h3.block g (lt_of_get hb) (fun hx => by have := hL g hx; omega)).trans hb, hr⟩
  | true =>
    have hil : i < l.length := by have := of_decide_eq_true hlt; omega
    obtain ⟨x, hx⟩ : ∃ x, l[i]? = some x := ⟨l[i], by simp⟩
    have w1 := wrap_nat (k := i) (by omega)
    refine Goes.run [0, 1] [(decide ((i : Int) < (l.length : Int)), true)] ⟨hlt, trivial⟩ ?_
    refine Goes.val (Instr.index 9 (strV l) (.int .i64 i)) (.int .u8 (x.toNat : Nat)) (fun w' _ _ => idxB hx w') ?_
    cases hb : decide ((x.toNat : Int) ≤ 32) with
    | true =>
      have hb' : cBlank (x.toNat : Nat) = true := hb
      refine Goes.run [1] [(decide ((x.toNat : Int) ≤ 32), true)] ⟨hb, trivial⟩ ?_
      refine Goes.slot 6 (.int .i64 (i + 1 : Nat)) (u := .int .i64 (IntKind.i64.wrap ((i : Int) + 1))) (congrArg _ w1) ?_
      rw [skip_blank hx hb'] at hp hf
      subst hn'
      exact back ⟨i + 1, rs, ts, a, c, f⟩ _ ⟨hil, hp, hf, hn, hm⟩ (by show l.length - (i + 1) < l.length - i; omega) (by kernel_rfl) (by kernel_rfl) (by kernel_rfl)
    | false =>
      have hb' : cBlank (x.toNat : Nat) = false := hb
      refine Goes.run [0] [(decide ((x.toNat : Int) ≤ 32), false)] ⟨hb, trivial⟩ ?_
      refine Goes.val (Instr.index 9 (strV l) (.int .i64 i)) (.int .u8 (x.toNat : Nat)) (fun w' _ _ => idxB hx w') ?_
      cases h35 : ((x.toNat : Int) == 35) with
      | true =>
        have hxl : cLine (x.toNat : Nat) = true := by
          have h35' : (x.toNat : Int) = 35 := by simpa using h35
          unfold cLine; rw [h35']; rfl
        have hadv := bhd_adv hx hxl
        have hble := bhd_le cLine l (Nat.le_of_lt hil)
        rw [skip_rem hx hb' h35] at hp hf
        obtain ⟨E, hE⟩ : ∃ E, bhd cLine l i = E := ⟨_, rfl⟩
        rw [hE] at hp hf hadv hble
        refine Goes.run [1] [((x.toNat : Int) == 35, true)] ⟨h35, trivial⟩ ?_
        refine Goes.loop0 (α := Nat) 67 (fun j => [(0, strV l), (2, .slice none 0 0), (3, .int .i64 0), (4, .int .i64 0), (5, .slice a n c), (6, .int .i64 j)]) [] (fun j => bhd cLine l j = E ∧ j ≤ l.length) (fun j => l.length - j) i ⟨hE, hi⟩ ?_
        rintro j J2 ⟨hj, hj2⟩ back2
        cases hlt2 : decide ((j : Int) < (l.length : Int)) with
        | false =>
          have hjE : j = E := by rw [← hj, bhd_end (by have := of_decide_eq_false hlt2; omega)]
          subst hjE
          refine Goes.run [0, 0, 0] [(false, false), (decide ((j : Int) < (l.length : Int)), false)] ⟨rfl, hlt2, trivial⟩ ?_
          subst hn'
          exact back ⟨j, rs, ts, a, c, f⟩ _ ⟨hble, hp, hf, hn, hm⟩ (by show l.length - j < l.length - i; omega) (by kernel_rfl) (by kernel_rfl) (by kernel_rfl)
        | true =>
          have hjl : j < l.length := by have := of_decide_eq_true hlt2; omega
          obtain ⟨y, hy⟩ : ∃ y, l[j]? = some y := ⟨l[j], by simp⟩
          refine Goes.run [0, 1] [(decide ((j : Int) < (l.length : Int)), true)] ⟨hlt2, trivial⟩ ?_
          refine Goes.val (Instr.index 9 (strV l) (.int .i64 j)) (.int .u8 (y.toNat : Nat)) (fun w' _ _ => idxB hy w') ?_
          cases hc : ((y.toNat : Int) != 10) with
          | false =>
            have hc' : cLine (y.toNat : Nat) = false := hc
            have hjE : j = E := by rw [← hj, bhd_out hy hc']
            subst hjE
            refine Goes.run [0] [((y.toNat : Int) != 10, false)] ⟨hc, trivial⟩ ?_
            subst hn'
            exact back ⟨j, rs, ts, a, c, f⟩ _ ⟨hble, hp, hf, hn, hm⟩ (by show l.length - j < l.length - i; omega) (by kernel_rfl) (by kernel_rfl) (by kernel_rfl)
          | true =>
            have hc' : cLine (y.toNat : Nat) = true := hc
            refine Goes.run [1] [((y.toNat : Int) != 10, true)] ⟨hc, trivial⟩ ?_
            refine Goes.slot 6 (.int .i64 (j + 1 : Nat)) (u := .int .i64 (IntKind.i64.wrap ((j : Int) + 1))) (congrArg _ (wrap_nat (by omega))) ?_
            exact back2 (j + 1) _ ⟨(bhd_in hy hc').symm.trans hj, hjl⟩ (by omega) (by kernel_rfl) (by kernel_rfl) (by kernel_rfl)
      | false =>
        rw [skip_at hx hb' h35] at hp hf
        obtain ⟨f, rfl⟩ : ∃ f', f = f' + 1 := ⟨f - 1, by omega⟩
        unfold prtF at hp
        have hfw := anyT_fwd hil
        have htok := fun w' => ztoken_any l i w' hl hil
        unfold Fwd at hfw
        unfold RTok at htok
        obtain ⟨t, htt⟩ : ∃ t, (anyT l i).1 = t := ⟨_, rfl⟩
        obtain ⟨r, hrr⟩ : ∃ r, (anyT l i).2 = r := ⟨_, rfl⟩
        have hta : r = 0 → t.a = i := by subst htt hrr; exact fun h => anyT_at h
        rw [htt, hrr] at hfw
        rw [hlt, htt, hrr, hn2] at hp
        simp only [htt, hrr] at htok
        simp only [cond_true] at hp
        refine Goes.run [0] [((x.toNat : Int) == 35, false)] ⟨h35, trivial⟩ ?_
        refine Goes.callF 27 #[strV l, .int .i64 i] fun w1 hm1 hI1 => (htok w1).mono fun e w2 ⟨hB, k, tx, nn, aa, m, e1, hg⟩ => ⟨_, fun _ => True, e1, hB, fun _ _ => trivial, ?_⟩
        refine Goes.inv (fun w h => h.1) ?_
        cases c2 : (r != 0) with
        | true =>
          have c0 : (r == 0) = false := by simpa using c2
          rw [c0, c2] at hp
          simp only [Bool.false_and, cond_false, cond_true] at hp
          refine Goes.run1 [0, 1] [(r != 0, true)] ⟨c2, trivial⟩ fun g2 => ?_
          exact Goes.ret [0] (.tuple #[.slice none 0 0, .int .i64 i, .int .i64 r]) fun w' hm' hI => ⟨below_end (m := []) (fun j b o h => by cases h) hI.now.1 hm' (by kernel_rfl), _, by rw [← hp], fun h => absurd h (by rw [← hp]; simpa using c2)⟩
        | false =>
          have c0 : (r == 0) = true := by simpa using c2
          have hr0 : r = 0 := by simpa using c0
          cases c1 : ((n : Int) == 8192) with
          | true =>
            rw [c0, c1] at hp
            simp only [Bool.true_and, cond_true] at hp
            refine Goes.run1 [0, 0, 1] [((n : Int) == 8192, true), (r != 0, false)] ⟨c1, c2, trivial⟩ fun g2 => ?_
            exact Goes.ret [0] (.tuple #[.slice none 0 0, .int .i64 i, .int .i64 76]) fun w' hm' hI => ⟨below_end (m := []) (fun j b o h => by cases h) hI.now.1 hm' (by kernel_rfl), _, by rw [← hp], fun h => absurd h (by rw [← hp]; exact (by decide : (76 : Int) ≠ 0))⟩
          | false =>
            rw [c0, c1, c2] at hp
            simp only [Bool.and_false, cond_false] at hp
            have hn3 : n < 8192 := by have : ¬ (n : Int) = 8192 := by simpa using c1
                                      omega
            obtain ⟨E, hE, hE1, hE2⟩ := hfw hr0
            obtain ⟨ha, hE3⟩ := hg hr0
            have hEm : E = i + m := by omega
            have hsk := skip_in l hE2
            refine Goes.run2 [0, 0, 0, 0] [((n : Int) == 8192, false), (r != 0, false)] ⟨c1, c2, trivial⟩ fun g2 g3 => ?_
            refine Goes.append (I0 := fun w' => Ch [] w w') w.heap.size 32 36 32 4 40 (.slice a n c) n (rs.flatMap RK.cs) 1 g3 1 1 (RK.cs ⟨k, tx, nn, aa⟩) 36 (0, 0) (fun w' h => ⟨h.1, h.2, h.1.size⟩) (fun w3 w4 h1 hB => ch_more h1 hB) rfl (RK.cs_one _) (by decide) (by unfold maxLen; omega) (by omega) fun a' c' => ?_
            refine Goes.run [] [] trivial ?_
            refine Goes.slot 6 (.int .i64 (E : Nat)) (u := .int .i64 (IntKind.i64.wrap ((i : Int) + (m : Int)))) (by rw [hEm]; exact congrArg _ (wrap_add (by omega))) ?_
            refine Goes.slot 5 (.slice a' (rs ++ [(⟨k, tx, nn, aa⟩ : RK)]).length c') (u := .slice a' (n + 1) c') (by simp [hn']) ?_
            refine Goes.keep 0 ?_
            refine Goes.inv ?_ (back ⟨E, rs ++ [(⟨k, tx, nn, aa⟩ : RK)], ts ++ [t], a', c', f⟩ _ ⟨hE2, by show prtF l f (skip l E) (ts ++ [t]) = R; rw [← hp, hE]; rfl, by show l.length + 1 ≤ f + skip l E; omega, by simp; omega, by simp [hm, ha, hta hr0]⟩ (by show l.length - E < l.length - i; omega) (by kernel_rfl) (by kernel_rfl) (by kernel_rfl))
            rintro w' ⟨h1, h2⟩
            refine ⟨h1, ?_⟩
            simpa [hn'] using h2
end Go.Proofs.YtommhgmlblecnaaGreatDoor
