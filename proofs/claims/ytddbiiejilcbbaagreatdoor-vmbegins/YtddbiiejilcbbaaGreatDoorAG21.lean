/- texts put together: GRef4 GPro4 GPro5 GEq VmN VmA VmB VmT VmF VmK -/
import Derived.Test.YtddbiiejilcbbaaGreatDoorAG20
import Derived.Test.DevTool
import Derived.Test.YtddbiiejilcbbaaGreatDoorAG16
namespace Go.Proofs.YtddbiiejilcbbaaGreatDoor
open Go Go.RowKit

theorem insL_drop {k : Kd} {j : Nat} {x : Ik} (hx : k.ins[j]? = some x) : insL k (j : Int) (k.ins.drop j) = (insR k j x && insL k ((j + 1 : Nat) : Int) (k.ins.drop (j + 1))) := by
  rw [drop_any hx, insL]
  rw [show ((j + 1 : Nat) : Int) = (j : Int) + 1 by omega]
theorem all_drop {α : Type} {p : α → Bool} {l : List α} {j : Nat} {x : α} (hx : l[j]? = some x) : (l.drop j).all p = (p x && (l.drop (j + 1)).all p) := by
  have h := (List.getElem?_eq_some_iff.1 hx)
  obtain ⟨h1, h2⟩ := h
  rw [List.drop_eq_getElem_cons h1, h2]
  rfl
section
variable {w : World} {rg : Int} {aW aI : Option Addr} {nW cW nI cI : Nat}
set_option maxRecDepth 100000 in
seal rn rnN rnS Goes ans atEnd put0 put putM opened openedY putA0 putA oneSt st0 keep mkSt newSt in
theorem rright_any {k : Kd} (hM : CdM w aW nW cW aI nI cI k) (hrg : k.regs = rg) : Calls Tryz.prog 20 #[cdV rg aW nW cW aI nI cI] w fun e w' => e = .returned (.bool (rightR k)) ∧ Below w.heap.size w w' := by
  have hi0 := hM.li
  have hw0 := hM.lw
  have eh : headR k = (decide (0 ≤ rg) && decide (rg ≤ 256) && decide (nW ≤ 250) && decide (1 ≤ nI) && decide (nI ≤ 16384) && (match k.ins[nI - 1]? with | some x => x.op == 30 | none => false)) := by unfold headR; first | (rw [hrg, hi0, hw0]; done) | (rw [hrg, hi0, hw0]; rfl)
  have no : headR k = false → rightR k = false := fun h => by unfold rightR; rw [h]; rfl
  refine Goes.begin Tryz.func20 [] (fun _ => True) Holds.nil (by simp [Mem.ids]) (fun _ _ => trivial) ?_
  cases h0 : decide (rg < 0) with
  | true =>
    refine Goes.run1 [0, 0, 1, 1, 1, 1, 1, 1] [(true, true), (true, true), (true, true), (true, true), (true, true), (decide (rg < 0), true)] ⟨rfl, rfl, rfl, rfl, rfl, h0, trivial⟩ fun g => ?_
    exact Goes.ret [] (.bool false) fun w' hm hI => ⟨by rw [no (by rw [eh, decide_eq_false (show ¬ 0 ≤ rg by have := of_decide_eq_true h0; omega)]; simp)], bel0 hI⟩
  | false =>
  cases h1 : decide (rg > 256) with
  | true =>
    refine Goes.run1 [0, 0, 0, 0, 1, 1, 1, 1, 1] [(true, true), (true, true), (true, true), (true, true), (decide (rg > 256), true), (decide (rg < 0), false)] ⟨rfl, rfl, rfl, rfl, h1, h0, trivial⟩ fun g => ?_
    exact Goes.ret [] (.bool false) fun w' hm hI => ⟨by rw [no (by rw [eh, decide_eq_false (show ¬ rg ≤ 256 by have := of_decide_eq_true h1; omega)]; simp)], bel0 hI⟩
  | false =>
  cases h2 : decide ((nW : Int) > 250) with
  | true =>
    refine Goes.run1 [0, 0, 0, 0, 0, 0, 1, 1, 1, 1] [(true, true), (true, true), (true, true), (decide ((nW : Int) > 250), true), (decide (rg > 256), false), (decide (rg < 0), false)] ⟨rfl, rfl, rfl, h2, h1, h0, trivial⟩ fun g => ?_
    exact Goes.ret [] (.bool false) fun w' hm hI => ⟨by rw [no (by rw [eh, decide_eq_false (show ¬ nW ≤ 250 by have := of_decide_eq_true h2; omega)]; simp)], bel0 hI⟩
  | false =>
  cases h3 : decide ((nI : Int) < 1) with
  | true =>
    refine Goes.run1 [0, 0, 0, 0, 0, 0, 0, 1, 1, 1] [(true, true), (true, true), (decide ((nI : Int) < 1), true), (decide ((nW : Int) > 250), false), (decide (rg > 256), false), (decide (rg < 0), false)] ⟨rfl, rfl, h3, h2, h1, h0, trivial⟩ fun g => ?_
    exact Goes.ret [] (.bool false) fun w' hm hI => ⟨by rw [no (by rw [eh, decide_eq_false (show ¬ 1 ≤ nI by have := of_decide_eq_true h3; omega)]; simp)], bel0 hI⟩
  | false =>
  cases h4 : decide ((nI : Int) > 16384) with
  | true =>
    refine Goes.run1 [0, 0, 0, 0, 0, 0, 0, 0, 1, 1] [(true, true), (decide ((nI : Int) > 16384), true), (decide ((nI : Int) < 1), false), (decide ((nW : Int) > 250), false), (decide (rg > 256), false), (decide (rg < 0), false)] ⟨rfl, h4, h3, h2, h1, h0, trivial⟩ fun g => ?_
    exact Goes.ret [] (.bool false) fun w' hm hI => ⟨by rw [no (by rw [eh, decide_eq_false (show ¬ nI ≤ 16384 by have := of_decide_eq_true h4; omega)]; simp)], bel0 hI⟩
  | false =>
  have f0 : 0 ≤ rg := by have := of_decide_eq_false h0; omega
  have f1 : rg ≤ 256 := by have := of_decide_eq_false h1; omega
  have f2 : nW ≤ 250 := by have := of_decide_eq_false h2; omega
  have f3 : 1 ≤ nI := by have := of_decide_eq_false h3; omega
  have f4 : nI ≤ 16384 := by have := of_decide_eq_false h4; omega
  obtain ⟨z, hz⟩ : ∃ z, k.ins[nI - 1]? = some z := ⟨k.ins[nI - 1]'(by rw [hi0]; omega), by simp⟩
  have eh2 : headR k = (z.op == 30) := by rw [eh, decide_eq_true f0, decide_eq_true f1, decide_eq_true f2, decide_eq_true f3, decide_eq_true f4, hz]; rfl
  obtain ⟨-, bI, oI, haI, hbI, hcz⟩ := hM.ins (nI - 1) z hz
  have hwr : IntKind.i64.wrap ((nI : Int) - 1) = ((nI - 1 : Nat) : Int) := by rw [IntWalk.i64_in _ ⟨by omega, by omega⟩]; omega
  refine Goes.run1 [0, 0, 0, 0, 0, 0, 0, 0, 0, 0] [(decide ((nI : Int) > 16384), false), (decide ((nI : Int) < 1), false), (decide ((nW : Int) > 250), false), (decide (rg > 256), false), (decide (rg < 0), false)] ⟨h4, h3, h2, h1, h0, trivial⟩ fun g => ?_
  refine Goes.val (Instr.indexAt 25 (.slice aI nI cI) (.int .i64 (IntKind.i64.wrap ((nI : Int) - 1)))) (.pointer (some ⟨bI, oI + (nI - 1) * 7, none⟩)) (fun w' _ _ => by rw [hwr, haI]; exact idxIk bI oI nI cI (nI - 1) (by omega) w') ?_
  refine Goes.run [] [] trivial ?_
  refine Goes.val (Instr.loadAt 3 (.pointer (some ⟨bI, oI + (nI - 1) * 7, none⟩))) (.int .i64 z.op) (fun w' hm hI => load1 Tryz.isAgg3 (hcz.below hbI (bel0 hI) 0 _ rfl)) ?_
  cases hop : (z.op == 30) with
  | false =>
    refine Goes.run [1] [(z.op != 30, true)] ⟨by unfold bne; rw [hop]; rfl, trivial⟩ ?_
    exact Goes.ret [] (.bool false) fun w' hm hI => ⟨by rw [no (by rw [eh2, hop])], bel0 hI⟩
  | true =>
  have er : rightR k = (k.waits.all (waiR k) && insL k 0 k.ins) := by unfold rightR; rw [eh2, hop]; rfl
  refine Goes.run [0] [(z.op != 30, false)] ⟨by unfold bne; rw [hop]; rfl, trivial⟩ ?_
  refine Goes.loop0 (α := Nat) 69 (fun j => [(1, .pointer (some ⟨g, 0, none⟩)), (3, .int .i64 nI), (4, .int .i64 j)]) [(g, .cells #[.int .i64 rg, .slice aW nW cW, .slice aI nI cI] 27 (0, 0))] (fun j => k.waits.all (waiR k) = (k.waits.drop j).all (waiR k) ∧ j ≤ nW) (fun j => nW - j) 0 ⟨rfl, Nat.zero_le _⟩ ?_
  rintro j J ⟨hj, hj2⟩ back
  cases hlt : decide ((j : Int) < (nW : Int)) with
  | true =>
    have hjl : j < nW := by have := of_decide_eq_true hlt; omega
    obtain ⟨x, hx⟩ : ∃ x, k.waits[j]? = some x := ⟨k.waits[j]'(by rw [hw0]; exact hjl), by simp⟩
    obtain ⟨hlab, bW, oW, haW, hbW, hcx⟩ := hM.waits j x hx
    refine Goes.run [0, 0, 1] [(decide ((j : Int) < (nW : Int)), true)] ⟨hlt, trivial⟩ ?_
    refine Goes.open [] ?_
    refine Goes.run [1, 3] [] trivial ?_
    refine Goes.two 0 2 ?_ ?_
    · refine TookS.run 0 0 ?_
      refine Goes.lone1 2 ?_
      refine TookS.run 2 0 ?_
      refine Goes.valA 4 (Instr.indexAt 24 (.slice aW nW cW) (.int .i64 j)) (.pointer (some ⟨bW, oW + j * 5, none⟩)) (fun w' _ => by rw [haW]; exact idxWk bW oW nW cW j hjl w') ?_
      refine Goes.lone1 5 ?_
      refine TookS.eff 5 (Instr.loadAt 70 (.pointer (some ⟨bW, oW + j * 5, none⟩))) fun w1 hm1 hn1 hI1 => ⟨wV x, w1, _, _, loadW (hcx.below hbW (bel0 hI1)), hm1, hn1, hI1, ?_⟩
      refine Goes.lone1 6 ?_
      refine TookS.call 6 45 #[cdV rg aW nW cW aI nI cI, wV x] fun w1 hm1 hn1 hI1 => (wait_any hM hlab w1).mono fun e w2 ⟨he, hB⟩ => ⟨_, _, _, he, hm1.bel hB, hn1, hI1.bel hB, ?_⟩
      refine Goes.run [7] [] trivial ?_
      cases hwx : waiR k x with
      | false =>
        refine Goes.run [1] [(true, true)] ⟨rfl, trivial⟩ ?_
        exact Goes.ret [] (.bool false) fun w' hm hI => ⟨by rw [er, hj, all_drop hx, hwx]; rfl, bel0 hI⟩
      | true =>
        refine Goes.run [0] [(false, false)] ⟨rfl, trivial⟩ ?_
        refine Goes.slot 4 (.int .i64 (j + 1 : Nat)) (u := .int .i64 (IntKind.i64.wrap ((j : Int) + 1))) (congrArg _ (wrap_nat (by omega))) ?_
        exact back (j + 1) _ ⟨by rw [hj, all_drop hx, hwx]; rfl, by omega⟩ (by omega) (by kernel_rfl) (by kernel_rfl) (by kernel_rfl)
    · skip
      refine TookS.run 2 0 ?_
      refine Goes.valA 4 (Instr.indexAt 24 (.slice aW nW cW) (.int .i64 j)) (.pointer (some ⟨bW, oW + j * 5, none⟩)) (fun w' _ => by rw [haW]; exact idxWk bW oW nW cW j hjl w') ?_
      refine Goes.two 0 5 ?_ ?_
      · refine TookS.run 0 0 ?_
        refine Goes.lone1 5 ?_
        refine TookS.eff 5 (Instr.loadAt 70 (.pointer (some ⟨bW, oW + j * 5, none⟩))) fun w1 hm1 hn1 hI1 => ⟨wV x, w1, _, _, loadW (hcx.below hbW (bel0 hI1)), hm1, hn1, hI1, ?_⟩
        refine Goes.lone1 6 ?_
        refine TookS.call 6 45 #[cdV rg aW nW cW aI nI cI, wV x] fun w1 hm1 hn1 hI1 => (wait_any hM hlab w1).mono fun e w2 ⟨he, hB⟩ => ⟨_, _, _, he, hm1.bel hB, hn1, hI1.bel hB, ?_⟩
        refine Goes.run [7] [] trivial ?_
        cases hwx : waiR k x with
        | false =>
          refine Goes.run [1] [(true, true)] ⟨rfl, trivial⟩ ?_
          exact Goes.ret [] (.bool false) fun w' hm hI => ⟨by rw [er, hj, all_drop hx, hwx]; rfl, bel0 hI⟩
        | true =>
          refine Goes.run [0] [(false, false)] ⟨rfl, trivial⟩ ?_
          refine Goes.slot 4 (.int .i64 (j + 1 : Nat)) (u := .int .i64 (IntKind.i64.wrap ((j : Int) + 1))) (congrArg _ (wrap_nat (by omega))) ?_
          exact back (j + 1) _ ⟨by rw [hj, all_drop hx, hwx]; rfl, by omega⟩ (by omega) (by kernel_rfl) (by kernel_rfl) (by kernel_rfl)
      · skip
        refine TookS.eff 5 (Instr.loadAt 70 (.pointer (some ⟨bW, oW + j * 5, none⟩))) fun w1 hm1 hn1 hI1 => ⟨wV x, w1, _, _, loadW (hcx.below hbW (bel0 hI1)), hm1, hn1, hI1, ?_⟩
        refine Goes.lone1 0 (TookS.run 0 0 ?_)
        refine Goes.lone1 6 ?_
        refine TookS.call 6 45 #[cdV rg aW nW cW aI nI cI, wV x] fun w1 hm1 hn1 hI1 => (wait_any hM hlab w1).mono fun e w2 ⟨he, hB⟩ => ⟨_, _, _, he, hm1.bel hB, hn1, hI1.bel hB, ?_⟩
        refine Goes.run [7] [] trivial ?_
        cases hwx : waiR k x with
        | false =>
          refine Goes.run [1] [(true, true)] ⟨rfl, trivial⟩ ?_
          exact Goes.ret [] (.bool false) fun w' hm hI => ⟨by rw [er, hj, all_drop hx, hwx]; rfl, bel0 hI⟩
        | true =>
          refine Goes.run [0] [(false, false)] ⟨rfl, trivial⟩ ?_
          refine Goes.slot 4 (.int .i64 (j + 1 : Nat)) (u := .int .i64 (IntKind.i64.wrap ((j : Int) + 1))) (congrArg _ (wrap_nat (by omega))) ?_
          exact back (j + 1) _ ⟨by rw [hj, all_drop hx, hwx]; rfl, by omega⟩ (by omega) (by kernel_rfl) (by kernel_rfl) (by kernel_rfl)
  | false =>
    have hjw : k.waits.all (waiR k) = true := by rw [hj, List.drop_of_length_le (by rw [hw0]; have := of_decide_eq_false hlt; omega)]; rfl
    rw [hjw, Bool.true_and] at er
    refine Goes.run [0, 0, 0] [(decide ((j : Int) < (nW : Int)), false)] ⟨hlt, trivial⟩ ?_
    clear back hj hj2 hlt
    refine Goes.loop0 (α := Nat) 69 (fun j => [(1, .pointer (some ⟨g, 0, none⟩)), (3, .int .i64 nI), (6, .int .i64 j)]) [(g, .cells #[.int .i64 rg, .slice aW nW cW, .slice aI nI cI] 27 (0, 0))] (fun j => insL k 0 k.ins = insL k j (k.ins.drop j) ∧ j ≤ nI) (fun j => nI - j) 0 ⟨rfl, Nat.zero_le _⟩ ?_
    rintro i J2 ⟨hj, hj2⟩ back
    cases hlt : decide ((i : Int) < (nI : Int)) with
    | false =>
      refine Goes.run [0, 0] [(decide ((i : Int) < (nI : Int)), false)] ⟨hlt, trivial⟩ ?_
      exact Goes.ret [] (.bool true) fun w' hm hI => ⟨by rw [er, hj, List.drop_of_length_le (by rw [hi0]; have := of_decide_eq_false hlt; omega)]; rfl, bel0 hI⟩
    | true =>
      have hjl : i < nI := by have := of_decide_eq_true hlt; omega
      obtain ⟨x, hx⟩ : ∃ x, k.ins[i]? = some x := ⟨k.ins[i]'(by rw [hi0]; exact hjl), by simp⟩
      refine Goes.run [0, 1, 0] [(decide ((i : Int) < (nI : Int)), true)] ⟨hlt, trivial⟩ ?_
      refine Goes.call0 46 #[cdV rg aW nW cW aI nI cI, .int .i64 i] (.bool (insR k i x)) (fun w' _ hI => instr_any (hM.below (bel0 hI)) hx hrg) ?_
      cases hix : insR k i x with
      | false =>
        refine Goes.run [1] [(true, true)] ⟨rfl, trivial⟩ ?_
        exact Goes.ret [] (.bool false) fun w' hm hI => ⟨by rw [er, hj, insL_drop hx, hix]; rfl, bel0 hI⟩
      | true =>
        refine Goes.run [0] [(false, false)] ⟨rfl, trivial⟩ ?_
        refine Goes.slot 6 (.int .i64 (i + 1 : Nat)) (u := .int .i64 (IntKind.i64.wrap ((i : Int) + 1))) (congrArg _ (wrap_nat (by omega))) ?_
        exact back (i + 1) _ ⟨by rw [hj, insL_drop hx, hix]; rfl, by omega⟩ (by omega) (by kernel_rfl) (by kernel_rfl) (by kernel_rfl)
end
end Go.Proofs.YtddbiiejilcbbaaGreatDoor
namespace Go.Proofs.YtddbiiejilcbbaaGreatDoor
open Go Go.RowKit

/-- Does an instruction go on behind its own place, where it calls a wait? -/
def callQ (k : Kd) (i : Int) (x : Ik) : Bool := !(x.op == 29 && (match k.waits[x.n.toNat]? with | some y => decide (y.entry ≤ i) | none => false))
def instrQ (k : Kd) (i : Int) (x : Ik) : Bool := inW x.op 1 30 && ownQ x k.waits.length && callQ k i x && isF x.op.toNat 1 x.a 0 (k.regs - 1) && isF x.op.toNat 2 x.b 0 (k.regs - 1) && isF x.op.toNat 4 x.c 0 (k.regs - 1) && isF x.op.toNat 8 x.to (i + 1) ((k.ins.length : Int) - 1)
def instrQL (k : Kd) : Int → List Ik → Bool
  | _, [] => true
  | i, x :: r => instrQ k i x && instrQL k (i + 1) r
theorem instrQL_drop {k : Kd} {j : Nat} {x : Ik} (hx : k.ins[j]? = some x) : instrQL k (j : Int) (k.ins.drop j) = (instrQ k j x && instrQL k ((j + 1 : Nat) : Int) (k.ins.drop (j + 1))) := by
  rw [drop_any hx, instrQL]
  rw [show ((j + 1 : Nat) : Int) = (j : Int) + 1 by omega]
def headQ (k : Kd) : Bool := inW k.regs 0 256 && decide (k.waits.length ≤ 250) && inW (k.ins.length : Int) 1 16384 && (match k.ins[k.ins.length - 1]? with | some x => x.op == 30 | none => false)
def rightQ (k : Kd) : Bool := headQ k && k.waits.all (fun x => waitQ x k.ins.length) && instrQL k 0 k.ins
/-- Its numbers are of 64 bits. -/
def Kd.wf (k : Kd) : Prop := ∀ x ∈ k.ins, I64 x.n
noncomputable def inSt : St := (rn Tryz.prog [0, 1, 0] [] (put0 (rn Tryz.prog [1, 1] [1] (put0 (put0 (rn Tryz.prog [0] [0] (st0 Tryz.f59 #[cdV 0 none 0 0 (some ⟨9, 0, none⟩) 1 1, .int .i64 0] [])).st (.pointer (some ⟨9, 0, none⟩))) (iV ⟨30, 0, 0, 0, 0, [], 0⟩))).st (.bool true))).st
noncomputable def inK : List TI := (rnS Tryz.prog 39 [0, 1, 0, 0] [] (put0 inSt (.bool true))).st.todo
section
variable {w : World} {rg : Int} {aW aI : Option Addr} {nW cW nI cI : Nat}
set_option maxRecDepth 100000 in
seal rn rnN rnS Goes ans atEnd put0 put putM opened openedY putA0 putA oneSt st0 keep mkSt newSt inSt inK in
theorem isinstr_any {k : Kd} {i : Nat} {x : Ik} (hU : TabU w) (hM : CdM w aW nW cW aI nI cI k) (hx : k.ins[i]? = some x) (hrg : k.regs = rg) (hr0 : 0 ≤ rg ∧ rg ≤ 256) (hn : I64 x.n) (hI9 : nI ≤ 20000) : Calls Tryz.prog 59 #[cdV rg aW nW cW aI nI cI, .int .i64 i] w fun e w' => e = .returned (.bool (instrQ k i x)) ∧ Below w.heap.size w w' := by
  obtain ⟨hs, bI, oI, rfl, hbI, hc⟩ := hM.ins i x hx
  have hiN : i < nI := by rw [← hM.li]; exact (List.getElem?_eq_some_iff.1 hx).1
  have er : instrQ k i x = (inW x.op 1 30 && ownQ x nW && callQ k i x && isF x.op.toNat 1 x.a 0 (rg - 1) && isF x.op.toNat 2 x.b 0 (rg - 1) && isF x.op.toNat 4 x.c 0 (rg - 1) && isF x.op.toNat 8 x.to ((i : Int) + 1) ((nI : Int) - 1)) := by unfold instrQ; rw [hM.lw, hM.li, hrg]
  rw [er]
  refine Goes.begin Tryz.func59 [] (fun _ => True) Holds.nil (by simp [Mem.ids]) (fun _ _ => trivial) ?_
  refine Goes.run1 [0] [] trivial fun g2 => ?_
  refine Goes.val (Instr.indexAt 25 (.slice (some ⟨bI, oI, none⟩) nI cI) (.int .i64 i)) (.pointer (some ⟨bI, oI + i * 7, none⟩)) (fun w' _ _ => idxIk bI oI nI cI i hiN w') ?_
  refine Goes.val (Instr.loadAt 72 (.pointer (some ⟨bI, oI + i * 7, none⟩))) (iV x) (fun w' hm hI => loadI (hc.below hbI (bel0 hI))) ?_
  refine Goes.run1 [1, 1] [] trivial fun g5 => ?_
  refine Goes.call0 57 #[.int .i64 x.op, .int .i64 1, .int .i64 30] (.bool (inW x.op 1 30)) (fun w' _ _ => gwithin_any _ _ _ w') ?_
  cases h1 : inW x.op 1 30 with
  | false =>
    refine Goes.run [1, 1] [(true, true), (true, true)] ⟨rfl, rfl, trivial⟩ ?_
    exact Goes.ret [] (.bool false) fun w' hm hI => ⟨rfl, bel0 hI⟩
  | true =>
  have hop : 1 ≤ x.op ∧ x.op ≤ 30 := by unfold inW at h1; simpa using h1
  have hon : x.op = ((x.op.toNat : Nat) : Int) := by omega
  have h31 : x.op.toNat < 31 := by omega
  refine Goes.run [0, 1, 0] [(false, false)] ⟨rfl, trivial⟩ ?_
  refine Goes.call0 104 #[iV x, .int .i64 nW] (.bool (ownQ x nW)) (fun w' _ _ => hasown_any x hn hs nW w') ?_
  cases h2 : ownQ x nW with
  | false =>
    refine Goes.run [1] [(true, true)] ⟨rfl, trivial⟩ ?_
    exact Goes.ret [] (.bool false) fun w' hm hI => ⟨rfl, bel0 hI⟩
  | true =>
  have rest : ∀ J, Goes Tryz.prog (bodyPost Tryz.prog Tryz.f59 (fun e w' => e = .returned (.bool (isF x.op.toNat 1 x.a 0 (rg - 1) && isF x.op.toNat 2 x.b 0 (rg - 1) && isF x.op.toNat 4 x.c 0 (rg - 1) && isF x.op.toNat 8 x.to ((i : Int) + 1) ((nI : Int) - 1))) ∧ Below w.heap.size w w')) (fun w' => Ch (Mem.ids []) w w' ∧ True) ⟨inK, fr 74 [(1, .int .i64 i), (2, .pointer (some ⟨g2, 0, none⟩)), (4, .bool false), (5, .pointer (some ⟨g5, 0, none⟩))] J, [(g2, .cells #[.int .i64 rg, .slice aW nW cW, .slice (some ⟨bI, oI, none⟩) nI cI] 27 (0, 0)), (g5, .cells #[.int .i64 x.op, .int .i64 x.a, .int .i64 x.b, .int .i64 x.c, .int .i64 x.n, strV x.s, .int .i64 x.to] 72 (0, 0))]⟩ := fun J => by
    have hw1 : IntKind.i64.wrap (rg - 1) = rg - 1 := IntWalk.i64_in _ ⟨by omega, by omega⟩
    have hw2 : IntKind.i64.wrap ((i : Int) + 1) = (i : Int) + 1 := IntWalk.i64_in _ ⟨by omega, by omega⟩
    have hw3 : IntKind.i64.wrap ((nI : Int) - 1) = (nI : Int) - 1 := IntWalk.i64_in _ ⟨by omega, by omega⟩
    refine Goes.upto 43 [0] [] trivial ?_
    refine Goes.slot 7 (.int .i64 (rg - 1)) (u := .int .i64 (IntKind.i64.wrap (rg - 1))) (congrArg _ hw1) ?_
    refine Goes.run [1] [] trivial ?_
    refine Goes.callV0 105 #[] #[.int .i64 x.a, .int .i64 1, .int .i64 0, .int .i64 (rg - 1)] #[.pointer (some ⟨g5, 0, none⟩)] (.bool (isF x.op.toNat 1 x.a 0 (rg - 1))) (by kernel_rfl) (fun w' hm hI => isf_any (hU.below (bel0 hI)) hon h31 (hm.get 1) x.a 1 0 (rg - 1)) ?_
    cases b0 : isF x.op.toNat 1 x.a 0 (rg - 1) with
    | false =>
      refine Goes.run [0, 0, 0] [(false, false), (false, false), (false, false)] ⟨rfl, rfl, rfl, trivial⟩ ?_
      exact Goes.ret [] (.bool false) fun w' hm hI => ⟨rfl, bel0 hI⟩
    | true =>
    refine Goes.run [1, 1] [(true, true)] ⟨rfl, trivial⟩ ?_
    refine Goes.callV0 105 #[] #[.int .i64 x.b, .int .i64 2, .int .i64 0, .int .i64 (rg - 1)] #[.pointer (some ⟨g5, 0, none⟩)] (.bool (isF x.op.toNat 2 x.b 0 (rg - 1))) (by kernel_rfl) (fun w' hm hI => isf_any (hU.below (bel0 hI)) hon h31 (hm.get 1) x.b 2 0 (rg - 1)) ?_
    cases b1 : isF x.op.toNat 2 x.b 0 (rg - 1) with
    | false =>
      refine Goes.run [0, 0] [(false, false), (false, false)] ⟨rfl, rfl, trivial⟩ ?_
      exact Goes.ret [] (.bool false) fun w' hm hI => ⟨rfl, bel0 hI⟩
    | true =>
    refine Goes.run [1, 1] [(true, true)] ⟨rfl, trivial⟩ ?_
    refine Goes.callV0 105 #[] #[.int .i64 x.c, .int .i64 4, .int .i64 0, .int .i64 (rg - 1)] #[.pointer (some ⟨g5, 0, none⟩)] (.bool (isF x.op.toNat 4 x.c 0 (rg - 1))) (by kernel_rfl) (fun w' hm hI => isf_any (hU.below (bel0 hI)) hon h31 (hm.get 1) x.c 4 0 (rg - 1)) ?_
    cases b2 : isF x.op.toNat 4 x.c 0 (rg - 1) with
    | false =>
      refine Goes.run [0] [(false, false)] ⟨rfl, trivial⟩ ?_
      exact Goes.ret [] (.bool false) fun w' hm hI => ⟨rfl, bel0 hI⟩
    | true =>
    refine Goes.upto 71 [1, 1, 0] [(true, true)] ⟨rfl, trivial⟩ ?_
    refine Goes.slot 67 (.int .i64 ((i : Int) + 1)) (u := .int .i64 (IntKind.i64.wrap ((i : Int) + 1))) (congrArg _ hw2) ?_
    refine Goes.upto 72 [] [] trivial ?_
    refine Goes.slot 71 (.int .i64 ((nI : Int) - 1)) (u := .int .i64 (IntKind.i64.wrap ((nI : Int) - 1))) (congrArg _ hw3) ?_
    refine Goes.callV0 105 #[] #[.int .i64 x.to, .int .i64 8, .int .i64 ((i : Int) + 1), .int .i64 ((nI : Int) - 1)] #[.pointer (some ⟨g5, 0, none⟩)] (.bool (isF x.op.toNat 8 x.to ((i : Int) + 1) ((nI : Int) - 1))) (by kernel_rfl) (fun w' hm hI => isf_any (hU.below (bel0 hI)) hon h31 (hm.get 1) x.to 8 ((i : Int) + 1) ((nI : Int) - 1)) ?_
    refine Goes.run [] [] trivial ?_
    exact Goes.ret [] (.bool (isF x.op.toNat 8 x.to ((i : Int) + 1) ((nI : Int) - 1))) fun w' hm hI => ⟨rfl, bel0 hI⟩
  cases h29 : (x.op == 29) with
  | false =>
    have ec : callQ k i x = true := by unfold callQ; rw [h29]; rfl
    rw [ec]
    refine Goes.upto 39 [0, 1, 0, 0] [(false, false), (x.op == 29, false), (false, false)] ⟨rfl, h29, rfl, trivial⟩ ?_
    exact (Goes.at (K := inK) (n := 74) (S := [(1, .int .i64 i), (2, .pointer (some ⟨g2, 0, none⟩)), (4, .bool false), (5, .pointer (some ⟨g5, 0, none⟩))]) (m := [(g2, .cells #[.int .i64 rg, .slice aW nW cW, .slice (some ⟨bI, oI, none⟩) nI cI] 27 (0, 0)), (g5, .cells #[.int .i64 x.op, .int .i64 x.a, .int .i64 x.b, .int .i64 x.c, .int .i64 x.n, strV x.s, .int .i64 x.to] 72 (0, 0))]) (fun J => rest J) (by kernel_rfl) (by kernel_rfl) (by kernel_rfl))
  | true =>
    have hopn : x.op = 29 := eq_of_beq h29
    have hr : 0 ≤ x.n ∧ x.n < (nW : Int) := by
      unfold ownQ at h2
      rw [hopn] at h2
      have h3 : (decide (0 ≤ x.n) && decide (x.n < (nW : Int)) && decide (x.s = [])) = true := h2
      simp at h3
      omega
    obtain ⟨m, hm0⟩ : ∃ m : Nat, x.n = (m : Int) := ⟨x.n.toNat, by omega⟩
    have hmW : m < nW := by omega
    obtain ⟨y, hy⟩ : ∃ y, k.waits[m]? = some y := ⟨k.waits[m]'(by rw [hM.lw]; exact hmW), by simp⟩
    obtain ⟨-, bW, oW, rfl, hbW, hcy⟩ := hM.waits m y hy
    have ey : k.waits[x.n.toNat]? = some y := by rw [hm0]; simpa using hy
    refine Goes.run [0, 1, 1, 0, 1] [(x.op == 29, true), (false, false)] ⟨h29, rfl, trivial⟩ ?_
    refine Goes.val (Instr.indexAt 24 (.slice (some ⟨bW, oW, none⟩) nW cW) (.int .i64 x.n)) (.pointer (some ⟨bW, oW + m * 5, none⟩)) (fun w' _ _ => by rw [hm0]; exact idxWk bW oW nW cW m hmW w') ?_
    refine Goes.run [] [] trivial ?_
    refine Goes.val (Instr.loadAt 3 (.pointer (some ⟨bW, oW + m * 5, none⟩))) (.int .i64 y.entry) (fun w' hm hI => load1 Tryz.isAgg3 (hcy.below hbW (bel0 hI) 0 _ rfl)) ?_
    cases hle : decide (y.entry ≤ (i : Int)) with
    | true =>
      have ec : callQ k i x = false := by unfold callQ; rw [h29, ey]; simp only [hle]; rfl
      rw [ec]
      refine Goes.run [1] [(decide (y.entry ≤ (i : Int)), true)] ⟨hle, trivial⟩ ?_
      exact Goes.ret [] (.bool false) fun w' hm hI => ⟨rfl, bel0 hI⟩
    | false =>
      have ec : callQ k i x = true := by unfold callQ; rw [h29, ey]; simp only [hle]; rfl
      rw [ec]
      refine Goes.upto 39 [0] [(decide (y.entry ≤ (i : Int)), false)] ⟨hle, trivial⟩ ?_
      exact (Goes.at (K := inK) (n := 74) (S := [(1, .int .i64 i), (2, .pointer (some ⟨g2, 0, none⟩)), (4, .bool false), (5, .pointer (some ⟨g5, 0, none⟩))]) (m := [(g2, .cells #[.int .i64 rg, .slice (some ⟨bW, oW, none⟩) nW cW, .slice (some ⟨bI, oI, none⟩) nI cI] 27 (0, 0)), (g5, .cells #[.int .i64 x.op, .int .i64 x.a, .int .i64 x.b, .int .i64 x.c, .int .i64 x.n, strV x.s, .int .i64 x.to] 72 (0, 0))]) (fun J => rest J) (by kernel_rfl) (by kernel_rfl) (by kernel_rfl))
end
end Go.Proofs.YtddbiiejilcbbaaGreatDoor
namespace Go.Proofs.YtddbiiejilcbbaaGreatDoor
open Go Go.RowKit

section
variable {w : World} {rg : Int} {aW aI : Option Addr} {nW cW nI cI : Nat}
set_option maxRecDepth 100000 in
seal rn rnN rnS Goes ans atEnd put0 put putM opened openedY putA0 putA oneSt st0 keep mkSt newSt in
theorem gright_any {k : Kd} (hU : TabU w) (hM : CdM w aW nW cW aI nI cI k) (hrg : k.regs = rg) (hwf : k.wf) : Calls Tryz.prog 23 #[cdV rg aW nW cW aI nI cI] w fun e w' => e = .returned (.bool (rightQ k)) ∧ Below w.heap.size w w' := by
  have hi0 := hM.li
  have hw0 := hM.lw
  have eh : headQ k = (inW rg 0 256 && decide (nW ≤ 250) && inW (nI : Int) 1 16384 && (match k.ins[nI - 1]? with | some x => x.op == 30 | none => false)) := by unfold headQ; first | (rw [hrg, hi0, hw0]; done) | (rw [hrg, hi0, hw0]; rfl)
  have no : headQ k = false → rightQ k = false := fun h => by unfold rightQ; rw [h]; rfl
  refine Goes.begin Tryz.func23 [] (fun _ => True) Holds.nil (by simp [Mem.ids]) (fun _ _ => trivial) ?_
  refine Goes.run1 [0, 0] [] trivial fun g => ?_
  refine Goes.call0 57 #[.int .i64 rg, .int .i64 0, .int .i64 256] (.bool (inW rg 0 256)) (fun w' _ _ => gwithin_any _ _ _ w') ?_
  cases h0 : inW rg 0 256 with
  | false =>
    refine Goes.run [1, 1, 1, 1] [(true, true), (true, true), (true, true), (true, true)] ⟨rfl, rfl, rfl, rfl, trivial⟩ ?_
    exact Goes.ret [] (.bool false) fun w' hm hI => ⟨by rw [no (by rw [eh, h0]; rfl)], bel0 hI⟩
  | true =>
  have hr0 : 0 ≤ rg ∧ rg ≤ 256 := by unfold inW at h0; simpa using h0
  cases h1 : decide ((nW : Int) > 250) with
  | true =>
    refine Goes.run [0, 0, 1, 1, 1] [(true, true), (true, true), (decide ((nW : Int) > 250), true), (false, false)] ⟨rfl, rfl, h1, rfl, trivial⟩ ?_
    exact Goes.ret [] (.bool false) fun w' hm hI => ⟨by rw [no (by rw [eh, h0, decide_eq_false (show ¬ nW ≤ 250 by have := of_decide_eq_true h1; omega)]; rfl)], bel0 hI⟩
  | false =>
  have f1 : decide (nW ≤ 250) = true := decide_eq_true (by have := of_decide_eq_false h1; omega)
  have f9 : nW ≤ 250 := of_decide_eq_true f1
  refine Goes.run [0, 0, 0] [(decide ((nW : Int) > 250), false), (false, false)] ⟨h1, rfl, trivial⟩ ?_
  refine Goes.call0 57 #[.int .i64 nI, .int .i64 1, .int .i64 16384] (.bool (inW (nI : Int) 1 16384)) (fun w' _ _ => gwithin_any _ _ _ w') ?_
  cases h2 : inW (nI : Int) 1 16384 with
  | false =>
    refine Goes.run [1, 1] [(true, true), (true, true)] ⟨rfl, rfl, trivial⟩ ?_
    exact Goes.ret [] (.bool false) fun w' hm hI => ⟨by rw [no (by rw [eh, h0, f1, h2]; rfl)], bel0 hI⟩
  | true =>
  have hn0 : 1 ≤ nI ∧ nI ≤ 16384 := by unfold inW at h2; simp at h2; omega
  obtain ⟨z, hz⟩ : ∃ z, k.ins[nI - 1]? = some z := ⟨k.ins[nI - 1]'(by rw [hi0]; omega), by simp⟩
  have eh2 : headQ k = (z.op == 30) := by rw [eh, h0, f1, h2, hz]; rfl
  obtain ⟨-, bI, oI, haI, hbI, hcz⟩ := hM.ins (nI - 1) z hz
  have hwr : IntKind.i64.wrap ((nI : Int) - 1) = ((nI - 1 : Nat) : Int) := by rw [IntWalk.i64_in _ ⟨by omega, by omega⟩]; omega
  refine Goes.run [0, 0] [(false, false)] ⟨rfl, trivial⟩ ?_
  refine Goes.val (Instr.indexAt 25 (.slice aI nI cI) (.int .i64 (IntKind.i64.wrap ((nI : Int) - 1)))) (.pointer (some ⟨bI, oI + (nI - 1) * 7, none⟩)) (fun w' _ _ => by rw [hwr, haI]; exact idxIk bI oI nI cI (nI - 1) (by omega) w') ?_
  refine Goes.run [] [] trivial ?_
  refine Goes.val (Instr.loadAt 3 (.pointer (some ⟨bI, oI + (nI - 1) * 7, none⟩))) (.int .i64 z.op) (fun w' hm hI => load1 Tryz.isAgg3 (hcz.below hbI (bel0 hI) 0 _ rfl)) ?_
  cases hop : (z.op == 30) with
  | false =>
    refine Goes.run [1] [(z.op != 30, true)] ⟨by unfold bne; rw [hop]; rfl, trivial⟩ ?_
    exact Goes.ret [] (.bool false) fun w' hm hI => ⟨by rw [no (by rw [eh2, hop])], bel0 hI⟩
  | true =>
  have er : rightQ k = (k.waits.all (fun x => waitQ x nI) && instrQL k 0 k.ins) := by unfold rightQ; rw [eh2, hop, hi0]; rfl
  refine Goes.run [0, 0] [(z.op != 30, false)] ⟨by unfold bne; rw [hop]; rfl, trivial⟩ ?_
  refine Goes.loop0 (α := Nat) 58 (fun j => [(1, .pointer (some ⟨g, 0, none⟩)), (3, .int .i64 nI), (36, .slice aW nW cW), (37, .int .i64 nW), (38, .int .i64 j)]) [(g, .cells #[.int .i64 rg, .slice aW nW cW, .slice aI nI cI] 27 (0, 0))] (fun j => k.waits.all (fun x => waitQ x nI) = (k.waits.drop j).all (fun x => waitQ x nI) ∧ j ≤ nW) (fun j => nW - j) 0 ⟨rfl, Nat.zero_le _⟩ ?_
  rintro j J ⟨hj, hj2⟩ back
  cases hlt : decide ((j : Int) < (nW : Int)) with
  | true =>
    have hjl : j < nW := by have := of_decide_eq_true hlt; omega
    obtain ⟨x, hx⟩ : ∃ x, k.waits[j]? = some x := ⟨k.waits[j]'(by rw [hw0]; exact hjl), by simp⟩
    obtain ⟨hlab, bW, oW, haW, hbW, hcx⟩ := hM.waits j x hx
    refine Goes.run [0, 1] [(decide ((j : Int) < (nW : Int)), true)] ⟨hlt, trivial⟩ ?_
    refine Goes.val (Instr.indexAt 24 (.slice aW nW cW) (.int .i64 j)) (.pointer (some ⟨bW, oW + j * 5, none⟩)) (fun w' _ _ => by rw [haW]; exact idxWk bW oW nW cW j hjl w') ?_
    refine Goes.val (Instr.loadAt 70 (.pointer (some ⟨bW, oW + j * 5, none⟩))) (wV x) (fun w' hm hI => loadW (hcx.below hbW (bel0 hI))) ?_
    refine Goes.run1 [1, 1] [] trivial fun g5 => ?_
    refine Goes.call0 58 #[wV x, .int .i64 nI] (.bool (waitQ x nI)) (fun w' _ _ => iswait_any x nI (by omega) hlab w') ?_
    cases hwx : waitQ x nI with
    | false =>
      refine Goes.run [1] [(true, true)] ⟨rfl, trivial⟩ ?_
      exact Goes.ret [] (.bool false) fun w' hm hI => ⟨by rw [er, hj, all_drop hx, hwx]; rfl, bel0 hI⟩
    | true =>
      refine Goes.run [0] [(false, false)] ⟨rfl, trivial⟩ ?_
      refine Goes.keep 1 ?_
      refine Goes.slot 38 (.int .i64 (j + 1 : Nat)) (u := .int .i64 (IntKind.i64.wrap ((j : Int) + 1))) (congrArg _ (wrap_nat (by omega))) ?_
      exact back (j + 1) _ ⟨by rw [hj, all_drop hx, hwx]; rfl, by omega⟩ (by omega) (by kernel_rfl) (by kernel_rfl) (by kernel_rfl)
  | false =>
    have hjw : k.waits.all (fun x => waitQ x nI) = true := by rw [hj, List.drop_of_length_le (by rw [hw0]; have := of_decide_eq_false hlt; omega)]; rfl
    rw [hjw, Bool.true_and] at er
    refine Goes.run [0, 0, 0] [(decide ((j : Int) < (nW : Int)), false)] ⟨hlt, trivial⟩ ?_
    clear back hj hj2 hlt
    refine Goes.loop0 (α := Nat) 58 (fun j => [(1, .pointer (some ⟨g, 0, none⟩)), (49, .int .i64 nI), (50, .int .i64 j)]) [(g, .cells #[.int .i64 rg, .slice aW nW cW, .slice aI nI cI] 27 (0, 0))] (fun j => instrQL k 0 k.ins = instrQL k j (k.ins.drop j) ∧ j ≤ nI) (fun j => nI - j) 0 ⟨rfl, Nat.zero_le _⟩ ?_
    rintro i J2 ⟨hj, hj2⟩ back
    cases hlt : decide ((i : Int) < (nI : Int)) with
    | false =>
      refine Goes.run [0, 0] [(decide ((i : Int) < (nI : Int)), false)] ⟨hlt, trivial⟩ ?_
      exact Goes.ret [] (.bool true) fun w' hm hI => ⟨by rw [er, hj, List.drop_of_length_le (by rw [hi0]; have := of_decide_eq_false hlt; omega)]; rfl, bel0 hI⟩
    | true =>
      have hjl : i < nI := by have := of_decide_eq_true hlt; omega
      obtain ⟨x, hx⟩ : ∃ x, k.ins[i]? = some x := ⟨k.ins[i]'(by rw [hi0]; exact hjl), by simp⟩
      refine Goes.run [0, 1, 0] [(decide ((i : Int) < (nI : Int)), true)] ⟨hlt, trivial⟩ ?_
      refine Goes.call0 59 #[cdV rg aW nW cW aI nI cI, .int .i64 i] (.bool (instrQ k i x)) (fun w' _ hI => isinstr_any (hU.below (bel0 hI)) (hM.below (bel0 hI)) hx hrg hr0 (hwf x (List.mem_of_getElem? hx)) (by omega)) ?_
      cases hix : instrQ k i x with
      | false =>
        refine Goes.run [1] [(true, true)] ⟨rfl, trivial⟩ ?_
        exact Goes.ret [] (.bool false) fun w' hm hI => ⟨by rw [er, hj, instrQL_drop hx, hix]; rfl, bel0 hI⟩
      | true =>
        refine Goes.run [0] [(false, false)] ⟨rfl, trivial⟩ ?_
        refine Goes.slot 50 (.int .i64 (i + 1 : Nat)) (u := .int .i64 (IntKind.i64.wrap ((i : Int) + 1))) (congrArg _ (wrap_nat (by omega))) ?_
        exact back (i + 1) _ ⟨by rw [hj, instrQL_drop hx, hix]; rfl, by omega⟩ (by omega) (by kernel_rfl) (by kernel_rfl) (by kernel_rfl)
end
end Go.Proofs.YtddbiiejilcbbaaGreatDoor
namespace Go.Proofs.YtddbiiejilcbbaaGreatDoor
open Go Go.RowKit

theorem le_lt (n m : Int) : decide (n ≤ m - 1) = decide (n < m) := by rw [decide_eq_decide]; omega
theorem bit_A : ∀ o : Fin 31, (andI (usesT.getD o.1 0) 1 == 0) = !hasR (usesR ((o.1 : Nat) : Int)).1 65 := by decide
theorem bit_B : ∀ o : Fin 31, (andI (usesT.getD o.1 0) 2 == 0) = !hasR (usesR ((o.1 : Nat) : Int)).1 66 := by decide
theorem bit_C : ∀ o : Fin 31, (andI (usesT.getD o.1 0) 4 == 0) = !hasR (usesR ((o.1 : Nat) : Int)).1 67 := by decide
theorem bit_T : ∀ o : Fin 31, (andI (usesT.getD o.1 0) 8 == 0) = !hasR (usesR ((o.1 : Nat) : Int)).1 84 := by decide
theorem bit_ok : ∀ o : Fin 31, 1 ≤ o.1 → (usesR ((o.1 : Nat) : Int)).2 = true := by decide
theorem reg_eq (u : Bool) (n rg : Int) : (bif !u then n == 0 else inW n 0 (rg - 1)) = regR n u rg := by
  unfold regR inW
  rw [le_lt]
  cases u <;> rfl
theorem own_eq {x : Ik} {k : Kd} (i : Int) (h : 1 ≤ x.op ∧ x.op ≤ 30) : (ownQ x k.waits.length && callQ k i x) = (numR k i x && txtR x) := by
  obtain ⟨op, a, b, c, n, s, to⟩ := x
  replace h : 1 ≤ op ∧ op ≤ 30 := h
  have F : ∀ {o : Int}, ¬ op = o → (op == o) = false := fun {o} ho => by rw [beq_eq_false_iff_ne]; exact ho
  by_cases e29 : op = 29
  · subst e29
    show (decide (0 ≤ n) && decide (n < (k.waits.length : Int)) && decide (s = []) && !(true && (match k.waits[n.toNat]? with | some y => decide (y.entry ≤ i) | none => false))) = (decide (0 ≤ n) && decide (n < (k.waits.length : Int)) && (match k.waits[n.toNat]? with | some w => decide (w.entry > i) | none => false) && decide (s = []))
    by_cases h0 : 0 ≤ n ∧ n < (k.waits.length : Int)
    · obtain ⟨y, hy⟩ : ∃ y, k.waits[n.toNat]? = some y := ⟨k.waits[n.toNat]'(by omega), by simp⟩
      rw [hy]
      have e : (!decide (y.entry ≤ i)) = decide (y.entry > i) := by
        rw [Bool.eq_iff_iff]
        simp
      simp only [Bool.true_and]
      rw [e, decide_eq_true h0.1, decide_eq_true h0.2]
      cases decide (s = []) <;> simp
    · have e : (decide (0 ≤ n) && decide (n < (k.waits.length : Int))) = false := by
        rw [Bool.eq_false_iff]
        intro h
        simp at h
        exact h0 (by omega)
      rw [e]
      rfl
  · have ec : callQ k i ⟨op, a, b, c, n, s, to⟩ = true := by
      unfold callQ
      simp only [F e29]
      rfl
    rw [ec, Bool.and_true]
    by_cases e1 : op = 1
    · subst e1; rfl
    by_cases e2 : op = 2
    · subst e2
      show (decide (0 ≤ n) && ((decide (-3660 ≤ n) && decide (n ≤ 3660)) && namP s)) = (decide (0 ≤ n) && decide (n ≤ 3660) && namP s)
      cases h0 : decide (0 ≤ n) with
      | false => rfl
      | true => rw [decide_eq_true (show -3660 ≤ n by have := of_decide_eq_true h0; omega)]; simp
    by_cases e3 : op = 3
    · subst e3
      show (decide (0 ≤ n) && ((decide (-3660 ≤ n) && decide (n ≤ 3660)) && decide (s = []))) = (decide (0 ≤ n) && decide (n ≤ 3660) && decide (s = []))
      cases h0 : decide (0 ≤ n) with
      | false => rfl
      | true => rw [decide_eq_true (show -3660 ≤ n by have := of_decide_eq_true h0; omega)]; simp
    by_cases e21 : op = 21
    · subst e21; rfl
    by_cases e22 : op = 22
    · subst e22; rfl
    by_cases e27 : op = 27
    · subst e27; rfl
    by_cases e28 : op = 28
    · subst e28; rfl
    unfold ownQ numR txtR
    simp only [F e1, F e2, F e3, F e21, F e22, F e27, F e28, F e29, Bool.or_self, cond_false]
theorem uses_out {op : Int} (h : ¬ (1 ≤ op ∧ op ≤ 30)) : (usesR op).2 = false := by
  have F : ∀ {o : Int}, 1 ≤ o → o ≤ 30 → (op == o) = false := fun {o} h1 h2 => by rw [beq_eq_false_iff_ne]; omega
  unfold usesR
  simp only [F (o := 1) (by omega) (by omega), F (o := 2) (by omega) (by omega), F (o := 3) (by omega) (by omega), F (o := 4) (by omega) (by omega), F (o := 5) (by omega) (by omega), F (o := 6) (by omega) (by omega), F (o := 7) (by omega) (by omega), F (o := 8) (by omega) (by omega), F (o := 9) (by omega) (by omega), F (o := 10) (by omega) (by omega), F (o := 11) (by omega) (by omega), F (o := 12) (by omega) (by omega), F (o := 13) (by omega) (by omega), F (o := 14) (by omega) (by omega), F (o := 15) (by omega) (by omega), F (o := 16) (by omega) (by omega), F (o := 17) (by omega) (by omega), F (o := 18) (by omega) (by omega), F (o := 19) (by omega) (by omega), F (o := 20) (by omega) (by omega), F (o := 21) (by omega) (by omega), F (o := 22) (by omega) (by omega), F (o := 23) (by omega) (by omega), F (o := 24) (by omega) (by omega), F (o := 25) (by omega) (by omega), F (o := 26) (by omega) (by omega), F (o := 27) (by omega) (by omega), F (o := 28) (by omega) (by omega), F (o := 29) (by omega) (by omega), F (o := 30) (by omega) (by omega), Bool.or_self, cond_false]
/-- Each instruction. -/
theorem instr_eq (k : Kd) (i : Int) (x : Ik) : instrQ k i x = insR k i x := by
  by_cases h : 1 ≤ x.op ∧ x.op ≤ 30
  · have ho : ((x.op.toNat : Nat) : Int) = x.op := by omega
    have h31 : x.op.toNat < 31 := by omega
    have bA := bit_A ⟨_, h31⟩
    have bB := bit_B ⟨_, h31⟩
    have bC := bit_C ⟨_, h31⟩
    have bT := bit_T ⟨_, h31⟩
    have bk := bit_ok ⟨_, h31⟩ (by show 1 ≤ x.op.toNat; omega)
    simp only [ho] at bA bB bC bT bk
    have hin : inW x.op 1 30 = true := by unfold inW; simp; omega
    have e1 : isF x.op.toNat 1 x.a 0 (k.regs - 1) = regR x.a (hasR (usesR x.op).1 65) k.regs := by unfold isF; rw [bA]; exact reg_eq _ _ _
    have e2 : isF x.op.toNat 2 x.b 0 (k.regs - 1) = regR x.b (hasR (usesR x.op).1 66) k.regs := by unfold isF; rw [bB]; exact reg_eq _ _ _
    have e3 : isF x.op.toNat 4 x.c 0 (k.regs - 1) = regR x.c (hasR (usesR x.op).1 67) k.regs := by unfold isF; rw [bC]; exact reg_eq _ _ _
    have e4 : isF x.op.toNat 8 x.to (i + 1) ((k.ins.length : Int) - 1) = toR k i x := by
      unfold isF toR inW
      rw [bT, le_lt]
      have : decide (i + 1 ≤ x.to) = decide (x.to > i) := by rw [decide_eq_decide]; omega
      rw [this]
      cases hasR (usesR x.op).1 84 <;> rfl
    have e5 := own_eq (k := k) i h
    unfold instrQ insR
    rw [hin, e1, e2, e3, e4, bk, Bool.true_and, Bool.true_and, e5]
    cases numR k i x <;> cases txtR x <;> cases regR x.a (hasR (usesR x.op).1 65) k.regs <;> cases regR x.b (hasR (usesR x.op).1 66) k.regs <;> cases regR x.c (hasR (usesR x.op).1 67) k.regs <;> rfl
  · have hin : inW x.op 1 30 = false := by
      rw [Bool.eq_false_iff]
      intro h1
      unfold inW at h1
      simp at h1
      exact h h1
    unfold instrQ insR
    rw [hin, uses_out h]
    rfl
theorem instrs_eq (k : Kd) : ∀ (l : List Ik) (i : Int), instrQL k i l = insL k i l
  | [], i => by rw [instrQL, insL]
  | x :: r, i => by rw [instrQL, insL, instr_eq, instrs_eq k r]
/-- Each wait. -/
theorem wait_eq (k : Kd) (x : Wk) (h : 1 ≤ k.ins.length) : waitQ x k.ins.length = waiR k x := by
  have eo : ownC 4 0 x.label = namP x.label := by
    show (true && namP x.label) = _
    rfl
  have ep : ∀ n : Int, inW n 0 ((k.ins.length : Int) - 1) = plaR k n := fun n => by unfold inW plaR; rw [le_lt]
  unfold waitQ waiR
  rw [eo, ep, ep, ep]
  unfold inW
  cases hl : decide (x.label = []) with
  | true =>
    simp only [cond_true]
    cases hf : (x.first == 0) with
    | false => simp
    | true =>
      cases hs : (x.second == 0) with
      | false => simp
      | true =>
        have p0 : plaR k 0 = true := by unfold plaR; simp; omega
        rw [eq_of_beq hf, eq_of_beq hs, p0]
        cases plaR k x.entry <;> simp
  | false =>
    simp only [cond_false]
    cases namP x.label <;> cases plaR k x.entry <;> cases plaR k x.first <;> cases plaR k x.second <;> simp
theorem head_eq (k : Kd) : headQ k = headR k := by
  unfold headQ headR inW
  have e1 : decide ((1 : Int) ≤ (k.ins.length : Int)) = decide (1 ≤ k.ins.length) := by rw [decide_eq_decide]; omega
  have e2 : decide ((k.ins.length : Int) ≤ 16384) = decide (k.ins.length ≤ 16384) := by rw [decide_eq_decide]; omega
  rw [e1, e2]
  cases decide (0 ≤ k.regs) <;> cases decide (k.regs ≤ 256) <;> cases decide (k.waits.length ≤ 250) <;> cases decide (1 ≤ k.ins.length) <;> cases decide (k.ins.length ≤ 16384) <;> rfl
/-- The program's right bytecodes are the document's. -/
theorem right_eq (k : Kd) : rightQ k = rightR k := by
  unfold rightQ rightR
  rw [head_eq, instrs_eq]
  cases hh : headR k with
  | false => rfl
  | true =>
    have h1 : 1 ≤ k.ins.length := by
      unfold headR at hh
      simp only [Bool.and_eq_true, decide_eq_true_eq] at hh
      exact hh.1.1.2
    have : (fun x => waitQ x k.ins.length) = waiR k := funext fun x => wait_eq k x h1
    rw [this]
end Go.Proofs.YtddbiiejilcbbaaGreatDoor
namespace Go.Proofs.YtddbiiejilcbbaaGreatDoor
open Go Go.RowKit

set_option maxRecDepth 100000 in
seal rn rnN rnS Goes ans atEnd put0 putM opened openedY putA0 putA oneSt st0 in
theorem vday_any (d : Int) (w : World) : Calls Tryz.prog 109 #[.int .i64 d] w fun e w' => e = .returned (.bool (dayP d)) ∧ Below w.heap.size w w' := by
  refine Goes.begin Tryz.func109 [] (fun _ => True) Holds.nil (by simp [Mem.ids]) (fun _ _ => trivial) ?_
  cases h : decide (0 ≤ d) with
  | true =>
    refine Goes.run [1] [(decide (0 ≤ d), true)] ⟨h, trivial⟩ ?_
    exact Goes.ret [] (.bool (decide (d ≤ 73048))) fun w' hm hI => ⟨by rw [dayP, h, Bool.true_and], bel0 hI⟩
  | false =>
    refine Goes.run [0] [(decide (0 ≤ d), false)] ⟨h, trivial⟩ ?_
    exact Goes.ret [] (.bool false) fun w' hm hI => ⟨by rw [dayP, h, Bool.false_and], bel0 hI⟩
set_option maxRecDepth 100000 in
seal rn rnN rnS Goes ans atEnd put0 putM opened openedY putA0 putA oneSt st0 in
theorem vnum_any (n : Int) (w : World) : Calls Tryz.prog 69 #[.int .i64 n] w fun e w' => e = .returned (.bool (numP n)) ∧ Below w.heap.size w w' := by
  refine Goes.begin Tryz.func69 [] (fun _ => True) Holds.nil (by simp [Mem.ids]) (fun _ _ => trivial) ?_
  refine Goes.run [] [] trivial ?_
  refine Goes.call0 116 #[.int .i64 n] (.int .i64 (clampI n)) (fun w' _ _ => (clamp_any n w').mono fun _ _ h => belQ h) ?_
  refine Goes.run [] [] trivial ?_
  exact Goes.ret [] (.bool (clampI n == n)) fun w' hm hI => ⟨by rw [clamp_num], bel0 hI⟩
theorem neEmp (l : List UInt8) (i : Nat) (r : Bool) (h : decide (l ≠ []) = r) (w : World) : (do eqGuard .neq 9 (.tmp i) (.const (strV [])) (strV l) (strV []); binOp .neq 9 (strV l) (strV []) : Sem Value).run Tryz.prog w = .ok (.bool r) w := by
  have : (eqGuard .neq 9 (.tmp i) (.const (strV [])) (strV l) (strV [])).run Tryz.prog w = .ok () w := by unfold eqGuard strV; go_simp
  simp only [Sem.run_bind, this, Result.andThen_ok, neqS l [] r h w]
theorem nam_code (s : List UInt8) (h : decide (s = []) = false) : rightQ ⟨0, [⟨0, 0, s, 0, 0⟩], [⟨30, 0, 0, 0, 0, [], 0⟩]⟩ = namP s := by
  rw [right_eq]
  simp [rightR, headR, waiR, plaR, insL, insR, numR, txtR, toR, regR, usesR, hasR, h]
theorem cdm_one {w : World} {g8 g10 : Nat} {s : List UInt8} (hs : s.length ≤ 9223372036854775807) (h8 : w.heap[g8]? = some (.cells #[.int .i64 0, .int .i64 0, strV s, .int .i64 0, .int .i64 0] 70 (0, 0))) (h10 : w.heap[g10]? = some (.cells #[.int .i64 30, .int .i64 0, .int .i64 0, .int .i64 0, .int .i64 0, strV [], .int .i64 0] 72 (0, 0))) : CdM w (some ⟨g8, 0, none⟩) 1 1 (some ⟨g10, 0, none⟩) 1 1 ⟨0, [⟨0, 0, s, 0, 0⟩], [⟨30, 0, 0, 0, 0, [], 0⟩]⟩ := by
  refine ⟨rfl, rfl, by omega, by omega, fun i x hx => ?_, fun i x hx => ?_⟩
  · match i, hx with
    | 0, hx =>
      cases hx
      refine ⟨hs, g8, 0, rfl, lt_of_get h8, fun j u hj => ?_⟩
      unfold World.cell?
      rw [h8]
      match j, hj with
      | 0, hj | 1, hj | 2, hj | 3, hj | 4, hj => cases hj; rfl
  · match i, hx with
    | 0, hx =>
      cases hx
      refine ⟨by decide, g10, 0, rfl, lt_of_get h10, fun j u hj => ?_⟩
      unfold World.cell?
      rw [h10]
      match j, hj with
      | 0, hj | 1, hj | 2, hj | 3, hj | 4, hj | 5, hj | 6, hj => cases hj; rfl
set_option maxRecDepth 100000 in
seal rn rnN rnS Goes ans atEnd put0 putM opened openedY putA0 putA oneSt st0 in
theorem vname_any (s : List UInt8) (w : World) (hs : s.length ≤ 9223372036854775807) (hU : TabU w) : Calls Tryz.prog 70 #[strV s] w fun e w' => e = .returned (.bool (namP s)) ∧ Below w.heap.size w w' := by
  refine Goes.begin Tryz.func70 [] (fun _ => True) Holds.nil (by simp [Mem.ids]) (fun _ _ => trivial) ?_
  refine Goes.upto 4 [] [] trivial ?_
  refine Goes.val (do eqGuard .neq 9 (.tmp 3) (.const (strV [])) (strV s) (strV []); binOp .neq 9 (strV s) (strV [])) (.bool (!(decide (s = [])))) (fun w' _ _ => neEmp s 3 _ (by simp) w') ?_
  cases h : decide (s = []) with
  | true =>
    refine Goes.run [0] [(false, false)] ⟨rfl, trivial⟩ ?_
    exact Goes.ret [] (.bool false) fun w' hm hI => ⟨by rw [of_decide_eq_true h]; rfl, bel0 hI⟩
  | false =>
    refine Goes.run2 [1] [(true, true)] ⟨rfl, trivial⟩ fun g8 g10 => ?_
    refine Goes.call0 23 #[cdV 0 (some ⟨g8, 0, none⟩) 1 1 (some ⟨g10, 0, none⟩) 1 1] (.bool (namP s)) (fun w' hm hI => by rw [← nam_code s h]; exact gright_any (hU.below (bel0 hI)) (cdm_one hs (hm.get 0) (hm.get 1)) rfl (fun x hx => by simp at hx; subst hx; exact ⟨by decide, by decide⟩)) ?_
    refine Goes.run [] [] trivial ?_
    exact Goes.ret [] (.bool (namP s)) fun w' hm hI => ⟨rfl, bel0 hI⟩
end Go.Proofs.YtddbiiejilcbbaaGreatDoor
namespace Go.Proofs.YtddbiiejilcbbaaGreatDoor
open Go Go.RowKit

end Go.Proofs.YtddbiiejilcbbaaGreatDoor
namespace Go.Proofs.YtddbiiejilcbbaaGreatDoor
open Go Go.RowKit

set_option maxRecDepth 100000 in
seal rn rnN rnS Goes ans atEnd put0 putM opened openedY putA0 putA oneSt st0 keep in
theorem vstamps_any {l : List (Int × Int)} {v : Value} {w : World} (hS : Sts w.heap.size w v l) : Calls Tryz.prog 144 #[v] w fun e w' => e = .returned (.bool (stmP l)) ∧ Below w.heap.size w w' := by
  obtain ⟨a, c, rfl, hc, hst⟩ := hS
  obtain ⟨N, hN⟩ : ∃ N, l.length = N := ⟨_, rfl⟩
  rw [hN] at hc ⊢
  refine Goes.begin Tryz.func144 [] (fun _ => True) Holds.nil (by simp [Mem.ids]) (fun _ _ => trivial) ?_
  cases h0 : decide ((N : Int) > 4096) with
  | true =>
    refine Goes.run [1] [(decide ((N : Int) > 4096), true)] ⟨h0, trivial⟩ ?_
    exact Goes.ret [] (.bool false) fun w' hm hI => ⟨by unfold stmP; rw [hN, decide_eq_false (by have := of_decide_eq_true h0; omega)]; rfl, bel0 hI⟩
  | false =>
    have hW : stmP l = stOk (-1) l := by unfold stmP; rw [hN, decide_eq_true (by have := of_decide_eq_false h0; omega), Bool.true_and]
    rw [hW]
    refine Goes.run [0] [(decide ((N : Int) > 4096), false)] ⟨h0, trivial⟩ ?_
    refine Goes.loop0 (α := Nat × Int) 34 (fun q => [(3, .int .i64 q.2), (9, .slice a N c), (10, .int .i64 N), (11, .int .i64 q.1)]) [] (fun q => q.1 ≤ N ∧ stOk (-1) l = stOk q.2 (l.drop q.1)) (fun q => N - q.1) (0, -1) ⟨Nat.zero_le _, rfl⟩ ?_
    rintro ⟨i, last⟩ J ⟨hi, hrest⟩ back
    simp only at hi hrest back ⊢
    cases hlt : decide ((i : Int) < (N : Int)) with
    | false =>
      refine Goes.run [0, 0] [(decide ((i : Int) < (N : Int)), false)] ⟨hlt, trivial⟩ ?_
      exact Goes.ret [] (.bool true) fun w' hm hI => ⟨by rw [hrest, List.drop_of_length_le (by have := of_decide_eq_false hlt; omega)]; rfl, bel0 hI⟩
    | true =>
      have hil : i < N := by have := of_decide_eq_true hlt; omega
      obtain ⟨q, hq⟩ : ∃ q, l[i]? = some q := ⟨l[i]'(by omega), by simp⟩
      obtain ⟨b, o, rfl, hb, x1, x2⟩ := hst i q hq
      have hd := drop_any hq
      have hR : stOk (-1) l = ((!decide (q.1 ≤ last) && dayP q.1 && numP q.2) && stOk q.1 (l.drop (i + 1))) := by rw [hrest, hd, stOk]
      refine Goes.run [0, 1] [(decide ((i : Int) < (N : Int)), true)] ⟨hlt, trivial⟩ ?_
      refine Goes.val (Instr.indexAt 160 (.slice (some ⟨b, o, none⟩) N c) (.int .i64 i)) (.pointer (some ⟨b, o + i * 2, none⟩)) (fun w' _ _ => idxT b o N c i hil w') ?_
      refine Goes.val (Instr.loadAt 164 (.pointer (some ⟨b, o + i * 2, none⟩))) (.agg #[.int .i64 q.1, .int .i64 q.2]) (fun w' _ hI => loadSt (((bel0 hI).cell (p := ⟨b, o + i * 2, none⟩) hb).trans x1) (((bel0 hI).cell (p := ⟨b, o + i * 2 + 1, none⟩) hb).trans x2)) ?_
      cases h1 : decide (q.1 ≤ last) with
      | true =>
        refine Goes.run1 [0, 0, 1, 1, 1] [(true, true), (true, true), (decide (q.1 ≤ last), true)] ⟨rfl, rfl, h1, trivial⟩ fun g => ?_
        exact Goes.ret [] (.bool false) fun w' hm hI => ⟨by rw [hR, h1]; rfl, bel0 hI⟩
      | false =>
        refine Goes.run1 [0, 0, 0, 0] [(decide (q.1 ≤ last), false)] ⟨h1, trivial⟩ fun g => ?_
        refine Goes.call0 109 #[.int .i64 q.1] (.bool (dayP q.1)) (fun w' _ _ => vday_any q.1 w') ?_
        cases h2 : dayP q.1 with
        | false =>
          refine Goes.run [1, 1] [(true, true), (true, true)] ⟨rfl, rfl, trivial⟩ ?_
          exact Goes.ret [] (.bool false) fun w' hm hI => ⟨by rw [hR, h1, h2]; rfl, bel0 hI⟩
        | true =>
          refine Goes.run [0, 0] [(false, false)] ⟨rfl, trivial⟩ ?_
          refine Goes.call0 69 #[.int .i64 q.2] (.bool (numP q.2)) (fun w' _ _ => vnum_any q.2 w') ?_
          cases h3 : numP q.2 with
          | false =>
            refine Goes.run [1] [(true, true)] ⟨rfl, trivial⟩ ?_
            exact Goes.ret [] (.bool false) fun w' hm hI => ⟨by rw [hR, h1, h2, h3]; rfl, bel0 hI⟩
          | true =>
            refine Goes.run [0, 0] [(false, false)] ⟨rfl, trivial⟩ ?_
            refine Goes.slot 11 (.int .i64 (i + 1 : Nat)) (u := .int .i64 (IntKind.i64.wrap ((i : Int) + 1))) (congrArg _ (wrap_nat (by omega))) ?_
            refine Goes.keep 0 ?_
            exact back (i + 1, q.1) _ ⟨hil, by rw [hR, h1, h2, h3]; rfl⟩ (by simp only; omega) (by kernel_chk) (by kernel_chk) (by kernel_chk)
set_option maxRecDepth 100000 in
seal rn rnN rnS Goes ans atEnd put0 putM opened openedY putA0 putA oneSt st0 keep in
theorem vfeeds_any {fs : Fs} {v : Value} {w : World} (hF : Fds w.heap.size w v fs) (hl : ∀ f ∈ fs, f.1.length ≤ 9223372036854775807) (hU : TabU w) : Calls Tryz.prog 110 #[v] w fun e w' => e = .returned (.bool (rfP fs)) ∧ Below w.heap.size w w' := by
  obtain ⟨a, c, rfl, hc, hfs⟩ := hF
  obtain ⟨N, hN⟩ : ∃ N, fs.length = N := ⟨_, rfl⟩
  rw [hN] at hc ⊢
  refine Goes.begin Tryz.func110 [] (fun _ => True) Holds.nil (by simp [Mem.ids]) (fun _ _ => trivial) ?_
  cases h0 : decide ((N : Int) > 64) with
  | true =>
    refine Goes.run [1] [(decide ((N : Int) > 64), true)] ⟨h0, trivial⟩ ?_
    exact Goes.ret [] (.bool false) fun w' hm hI => ⟨by unfold rfP; rw [hN, decide_eq_false (by have := of_decide_eq_true h0; omega)]; rfl, bel0 hI⟩
  | false =>
    have hW : rfP fs = fdOk [] fs := by unfold rfP; rw [hN, decide_eq_true (by have := of_decide_eq_false h0; omega), Bool.true_and]
    rw [hW]
    refine Goes.run [0] [(decide ((N : Int) > 64), false)] ⟨h0, trivial⟩ ?_
    refine Goes.loop0 (α := Nat × List UInt8) 34 (fun q => [(3, strV q.2), (9, .slice a N c), (10, .int .i64 N), (11, .int .i64 q.1)]) [] (fun q => q.1 ≤ N ∧ fdOk [] fs = fdOk q.2 (fs.drop q.1)) (fun q => N - q.1) (0, []) ⟨Nat.zero_le _, rfl⟩ ?_
    rintro ⟨i, last⟩ J ⟨hi, hrest⟩ back
    simp only at hi hrest back ⊢
    cases hlt : decide ((i : Int) < (N : Int)) with
    | false =>
      refine Goes.run [0, 0] [(decide ((i : Int) < (N : Int)), false)] ⟨hlt, trivial⟩ ?_
      exact Goes.ret [] (.bool true) fun w' hm hI => ⟨by rw [hrest, List.drop_of_length_le (by have := of_decide_eq_false hlt; omega)]; rfl, bel0 hI⟩
    | true =>
      have hil : i < N := by have := of_decide_eq_true hlt; omega
      obtain ⟨f, hf⟩ : ∃ f, fs[i]? = some f := ⟨fs[i]'(by omega), by simp⟩
      have hfm := List.mem_of_getElem? hf
      obtain ⟨b, o, u, rfl, hb, x1, x2, hst⟩ := hfs i f hf
      have hd := drop_any hf
      have hR : fdOk [] fs = ((decide (last < f.1) && namP f.1 && stmP f.2) && fdOk f.1 (fs.drop (i + 1))) := by rw [hrest, hd, fdOk]
      have hu : ∃ a2 M c2, u = .slice a2 M c2 := by obtain ⟨a2, c2, e, -⟩ := hst; exact ⟨a2, _, c2, e⟩
      obtain ⟨a2, M, c2, rfl⟩ := hu
      refine Goes.run [0, 1] [(decide ((i : Int) < (N : Int)), true)] ⟨hlt, trivial⟩ ?_
      refine Goes.val (Instr.indexAt 36 (.slice (some ⟨b, o, none⟩) N c) (.int .i64 i)) (.pointer (some ⟨b, o + i * 2, none⟩)) (fun w' _ _ => idxF b o N c i hil w') ?_
      refine Goes.val (Instr.loadAt 162 (.pointer (some ⟨b, o + i * 2, none⟩))) (.agg #[strV f.1, .slice a2 M c2]) (fun w' _ hI => loadFd (((bel0 hI).cell (p := ⟨b, o + i * 2, none⟩) hb).trans x1) (((bel0 hI).cell (p := ⟨b, o + i * 2 + 1, none⟩) hb).trans x2)) ?_
      refine Goes.upto1 18 [0, 0] [] trivial fun g => ?_
      refine Goes.val (binOp .leq 9 (strV f.1) (strV last)) (.bool (!(decide (last < f.1)))) (fun w' _ _ => leqT f.1 last w') ?_
      cases h1 : decide (last < f.1) with
      | false =>
        refine Goes.run [1, 1, 1] [(true, true), (true, true), (true, true)] ⟨rfl, rfl, rfl, trivial⟩ ?_
        exact Goes.ret [] (.bool false) fun w' hm hI => ⟨by rw [hR, h1]; rfl, bel0 hI⟩
      | true =>
        refine Goes.run [0, 0] [(false, false)] ⟨rfl, trivial⟩ ?_
        refine Goes.call0 70 #[strV f.1] (.bool (namP f.1)) (fun w' _ hI => vname_any f.1 w' (hl f hfm) (hU.below (bel0 hI))) ?_
        cases h2 : namP f.1 with
        | false =>
          refine Goes.run [1, 1] [(true, true), (true, true)] ⟨rfl, rfl, trivial⟩ ?_
          exact Goes.ret [] (.bool false) fun w' hm hI => ⟨by rw [hR, h1, h2]; rfl, bel0 hI⟩
        | true =>
          refine Goes.run [0, 0] [(false, false)] ⟨rfl, trivial⟩ ?_
          refine Goes.call0 144 #[.slice a2 M c2] (.bool (stmP f.2)) (fun w' _ hI => vstamps_any ((hst.later (bel0 hI)).more (bel0 hI).size)) ?_
          cases h3 : stmP f.2 with
          | false =>
            refine Goes.run [1] [(true, true)] ⟨rfl, trivial⟩ ?_
            exact Goes.ret [] (.bool false) fun w' hm hI => ⟨by rw [hR, h1, h2, h3]; rfl, bel0 hI⟩
          | true =>
            refine Goes.run [0, 0] [(false, false)] ⟨rfl, trivial⟩ ?_
            refine Goes.slot 11 (.int .i64 (i + 1 : Nat)) (u := .int .i64 (IntKind.i64.wrap ((i : Int) + 1))) (congrArg _ (wrap_nat (by omega))) ?_
            refine Goes.keep 0 ?_
            exact back (i + 1, f.1) _ ⟨hil, by rw [hR, h1, h2, h3]; rfl⟩ (by simp only; omega) (by kernel_chk) (by kernel_chk) (by kernel_chk)
set_option maxRecDepth 100000 in
seal rn rnN rnS Goes ans atEnd put0 putM opened openedY putA0 putA oneSt st0 keep in
theorem vright_any {fs : Fs} {a : Option Addr} {N c : Nat} (day : Int) {w : World} (hF : Fds w.heap.size w (.slice a N c) fs) (hl : ∀ f ∈ fs, f.1.length ≤ 9223372036854775807) (hU : TabU w) : Calls Tryz.prog 64 #[dwV day (.slice a N c)] w fun e w' => e = .returned (.bool (dayP day && rfP fs)) ∧ Below w.heap.size w w' := by
  refine Goes.begin Tryz.func64 [] (fun _ => True) Holds.nil (by simp [Mem.ids]) (fun _ _ => trivial) ?_
  refine Goes.run1 [0] [] trivial fun g => ?_
  refine Goes.call0 109 #[.int .i64 day] (.bool (dayP day)) (fun w' _ _ => vday_any day w') ?_
  cases h : dayP day with
  | false =>
    refine Goes.run [0] [(false, false)] ⟨rfl, trivial⟩ ?_
    exact Goes.ret [] (.bool false) fun w' hm hI => ⟨rfl, bel0 hI⟩
  | true =>
    refine Goes.run [1, 0] [(true, true)] ⟨rfl, trivial⟩ ?_
    refine Goes.call0 110 #[.slice a N c] (.bool (rfP fs)) (fun w' _ hI => vfeeds_any (hF.at (bel0 hI)) hl (hU.below (bel0 hI))) ?_
    refine Goes.run [] [] trivial ?_
    exact Goes.ret [] (.bool (rfP fs)) fun w' hm hI => ⟨rfl, bel0 hI⟩
end Go.Proofs.YtddbiiejilcbbaaGreatDoor
namespace Go.Proofs.YtddbiiejilcbbaaGreatDoor
open Go Go.RowKit

set_option maxRecDepth 100000 in
seal rn rnN rnS Goes ans atEnd put0 putM opened openedY putA0 putA oneSt st0 keep in
theorem vtold1_any (s t : List UInt8) (a : Option Addr) (N c : Nat) (w : World) : Calls Tryz.prog 187 #[.agg #[strV s, .slice a N c], strV t] w fun e w' => e = .returned (.int .i64 (Lib.compareBytes s t)) ∧ Below w.heap.size w w' := by
  refine Goes.begin Tryz.func187 [] (fun _ => True) Holds.nil (by simp [Mem.ids]) (fun _ _ => trivial) ?_
  refine Goes.run1 [0] [] trivial fun g => ?_
  refine Goes.call0 188 #[strV s, strV t] (.int .i64 (Lib.compareBytes s t)) (fun w' _ _ => (Tryz.strings_Compare ⟨s.toArray⟩ ⟨t.toArray⟩ w').mono fun _ _ h => belQ h) ?_
  refine Goes.run [] [] trivial ?_
  exact Goes.ret [] (.int .i64 (Lib.compareBytes s t)) fun w' hm hI => ⟨rfl, bel0 hI⟩
set_option maxRecDepth 100000 in
seal rn rnN rnS Goes ans atEnd put0 putM opened openedY putA0 putA oneSt st0 keep in
theorem vtold2_any (d n t : Int) (w : World) : Calls Tryz.prog 190 #[.agg #[.int .i64 d, .int .i64 n], .int .i64 t] w fun e w' => e = .returned (.int .i64 (Lib.compareInt d t)) ∧ Below w.heap.size w w' := by
  refine Goes.begin Tryz.func190 [] (fun _ => True) Holds.nil (by simp [Mem.ids]) (fun _ _ => trivial) ?_
  refine Goes.run1 [0] [] trivial fun g => ?_
  refine Goes.call0 191 #[.int .i64 d, .int .i64 t] (.int .i64 (Lib.compareInt d t)) (fun w' _ _ => (Tryz.cmp_Compare_int d t w').mono fun _ _ h => belQ h) ?_
  refine Goes.run [] [] trivial ?_
  exact Goes.ret [] (.int .i64 (Lib.compareInt d t)) fun w' hm hI => ⟨rfl, bel0 hI⟩
set_option maxRecDepth 100000 in
seal rn rnN rnS Goes ans atEnd put0 putM opened openedY putA0 putA oneSt st0 keep in
theorem vsearchF_any {l : Fs} {v : Value} {w : World} (hF : Fds w.heap.size w v l) (hN0 : l.length ≤ 1000000) (hr : RiseN l) (name : List UInt8) : Calls Tryz.prog 186 #[v, strV name, .func (.func 187) #[] #[]] w fun e w' => ∃ B, (∀ q, l[posN name l]? = some q → B = decide (q.1 = name)) ∧ (l[posN name l]? = none → B = false) ∧ e = .returned (.tuple #[.int .i64 (posN name l : Nat), .bool B]) ∧ Below w.heap.size w w' := by
  obtain ⟨a, c, rfl, hc, hst⟩ := hF
  obtain ⟨N, hN⟩ : ∃ N, l.length = N := ⟨_, rfl⟩
  rw [hN] at hc hN0 ⊢
  have hk := posN_iff (name := name) hr
  have hkN := posN_le name l
  rw [hN] at hkN
  obtain ⟨k, hkk⟩ : ∃ k, posN name l = k := ⟨_, rfl⟩
  rw [hkk] at hk hkN ⊢
  refine Goes.begin Tryz.func186 [] (fun _ => True) Holds.nil (by simp [Mem.ids]) (fun _ _ => trivial) ?_
  refine Goes.run [] [] trivial ?_
  refine Goes.loop0 (α := Nat × Nat) 49 (fun q => [(0, .slice a N c), (1, strV name), (2, .func (.func 187) #[] #[]), (8, .int .i64 N), (9, .int .i64 q.1), (10, .int .i64 q.2)]) [] (fun q => q.1 ≤ k ∧ k ≤ q.2 ∧ q.2 ≤ N) (fun q => q.2 - q.1) (0, N) ⟨Nat.zero_le _, hkN, Nat.le_refl _⟩ ?_
  rintro ⟨i, j⟩ J ⟨hi, hj, hjN⟩ back
  simp only at hi hj hjN back ⊢
  cases hlt : decide ((i : Int) < (j : Int)) with
  | false =>
    obtain rfl : i = k := by have := of_decide_eq_false hlt; omega
    cases hiN : decide ((i : Int) < (N : Int)) with
    | false =>
      refine Goes.run [0, 0, 0] [(decide ((i : Int) < (N : Int)), false), (decide ((i : Int) < (j : Int)), false)] ⟨hiN, hlt, trivial⟩ ?_
      exact Goes.ret [] (.tuple #[.int .i64 i, .bool false]) fun w' hm hI => ⟨false, fun q hq => by have := (List.getElem?_eq_some_iff.1 hq).1; have := of_decide_eq_false hiN; omega, fun _ => rfl, rfl, bel0 hI⟩
    | true =>
      have hil : i < N := by have := of_decide_eq_true hiN; omega
      obtain ⟨q, hq⟩ : ∃ q, l[i]? = some q := ⟨l[i]'(by omega), by simp⟩
      obtain ⟨b, o, u, rfl, hb, x1, x2, a2, c2, rfl, hc2, hst2⟩ := hst i q hq
      obtain ⟨M, hM⟩ : ∃ M, q.2.length = M := ⟨_, rfl⟩
      rw [hM] at x2
      refine Goes.run [0, 0, 1] [(decide ((i : Int) < (N : Int)), true), (decide ((i : Int) < (j : Int)), false)] ⟨hiN, hlt, trivial⟩ ?_
      refine Goes.val (Instr.indexAt 36 (.slice (some ⟨b, o, none⟩) N c) (.int .i64 i)) (.pointer (some ⟨b, o + i * 2, none⟩)) (fun w' _ _ => idxF b o N c i hil w') ?_
      refine Goes.val (Instr.loadAt 162 (.pointer (some ⟨b, o + i * 2, none⟩))) (.agg #[strV q.1, .slice a2 M c2]) (fun w' _ hI => loadFd (((bel0 hI).cell (p := ⟨b, o + i * 2, none⟩) hb).trans x1) (((bel0 hI).cell (p := ⟨b, o + i * 2 + 1, none⟩) hb).trans x2)) ?_
      refine Goes.run [] [] trivial ?_
      refine Goes.call0 187 #[.agg #[strV q.1, .slice a2 M c2], strV name] (.int .i64 (Lib.compareBytes q.1 name)) (fun w' _ _ => vtold1_any q.1 name a2 M c2 w') ?_
      refine Goes.run [] [] trivial ?_
      exact Goes.ret [] (.tuple #[.int .i64 i, .bool (Lib.compareBytes q.1 name == 0)]) fun w' hm hI => ⟨_, fun q' hq' => by rw [hq] at hq'; cases hq'; exact cmp_eq _ _, fun h => (by rw [hq] at h; cases h), rfl, bel0 hI⟩
  | true =>
    have hij : i < j := by have := of_decide_eq_true hlt; omega
    refine Goes.run [0, 1] [(decide ((i : Int) < (j : Int)), true)] ⟨hlt, trivial⟩ ?_
    refine Goes.slot 20 (.int .i64 ((i + j : Nat) : Int)) (u := .int .i64 (IntKind.i64.wrap ((i : Int) + (j : Int)))) (congrArg _ (by rw [IntWalk.i64_in _ ⟨by omega, by omega⟩]; omega)) ?_
    refine Goes.upto 24 [0, 0] [] trivial ?_
    obtain ⟨h, hh⟩ : ∃ h, (i + j) / 2 = h := ⟨_, rfl⟩
    refine Goes.slot 11 (.int .i64 ((h : Nat) : Int)) (u := .int .i64 (hfE (i + j))) (congrArg _ (by rw [hf_eq (by omega), hh])) ?_
    have hhi : i ≤ h ∧ h < j := by omega
    obtain ⟨q, hq⟩ : ∃ q, l[h]? = some q := ⟨l[h]'(by omega), by simp⟩
    obtain ⟨b, o, u, rfl, hb, x1, x2, a2, c2, rfl, hc2, hst2⟩ := hst h q hq
    obtain ⟨M, hM⟩ : ∃ M, q.2.length = M := ⟨_, rfl⟩
    rw [hM] at x2
    refine Goes.run [] [] trivial ?_
    refine Goes.val (Instr.indexAt 36 (.slice (some ⟨b, o, none⟩) N c) (.int .i64 h)) (.pointer (some ⟨b, o + h * 2, none⟩)) (fun w' _ _ => idxF b o N c h (by omega) w') ?_
    refine Goes.val (Instr.loadAt 162 (.pointer (some ⟨b, o + h * 2, none⟩))) (.agg #[strV q.1, .slice a2 M c2]) (fun w' _ hI => loadFd (((bel0 hI).cell (p := ⟨b, o + h * 2, none⟩) hb).trans x1) (((bel0 hI).cell (p := ⟨b, o + h * 2 + 1, none⟩) hb).trans x2)) ?_
    refine Goes.run [] [] trivial ?_
    refine Goes.call0 187 #[.agg #[strV q.1, .slice a2 M c2], strV name] (.int .i64 (Lib.compareBytes q.1 name)) (fun w' _ _ => vtold1_any q.1 name a2 M c2 w') ?_
    have hiff := hk h q hq
    cases hcm : decide (Lib.compareBytes q.1 name < 0) with
    | true =>
      have hlk : h < k := hiff.1 (by rw [← cmp_lt]; exact hcm)
      refine Goes.run [1] [(decide (Lib.compareBytes q.1 name < 0), true)] ⟨hcm, trivial⟩ ?_
      refine Goes.slot 9 (.int .i64 (h + 1 : Nat)) (u := .int .i64 (IntKind.i64.wrap ((h : Int) + 1))) (congrArg _ (wrap_nat (by omega))) ?_
      exact back (h + 1, j) _ ⟨hlk, hj, hjN⟩ (by simp only; omega) (by kernel_chk) (by kernel_chk) (by kernel_chk)
    | false =>
      have hlk : ¬ h < k := fun hl => by
        have := hiff.2 hl
        rw [← cmp_lt] at this
        rw [hcm] at this
        cases this
      refine Goes.run [0] [(decide (Lib.compareBytes q.1 name < 0), false)] ⟨hcm, trivial⟩ ?_
      exact back (i, h) _ ⟨hi, by omega, by omega⟩ (by simp only; omega) (by kernel_chk) (by kernel_chk) (by kernel_chk)
set_option maxRecDepth 100000 in
seal rn rnN rnS Goes ans atEnd put0 putM opened openedY putA0 putA oneSt st0 keep in
theorem vsearchT_any {l : List (Int × Int)} {v : Value} {w : World} (hF : Sts w.heap.size w v l) (hN0 : l.length ≤ 1000000) (hr : RiseD l) (day : Int) : Calls Tryz.prog 189 #[v, .int .i64 day, .func (.func 190) #[] #[]] w fun e w' => ∃ B, (∀ q, l[posD day l]? = some q → B = (Lib.compareInt q.1 day == 0)) ∧ (l[posD day l]? = none → B = false) ∧ e = .returned (.tuple #[.int .i64 (posD day l : Nat), .bool B]) ∧ Below w.heap.size w w' := by
  obtain ⟨a, c, rfl, hc, hst⟩ := hF
  obtain ⟨N, hN⟩ : ∃ N, l.length = N := ⟨_, rfl⟩
  rw [hN] at hc hN0 ⊢
  have hk := posD_iff (day := day) hr
  have hkN := posD_le day l
  rw [hN] at hkN
  obtain ⟨k, hkk⟩ : ∃ k, posD day l = k := ⟨_, rfl⟩
  rw [hkk] at hk hkN ⊢
  refine Goes.begin Tryz.func189 [] (fun _ => True) Holds.nil (by simp [Mem.ids]) (fun _ _ => trivial) ?_
  refine Goes.run [] [] trivial ?_
  refine Goes.loop0 (α := Nat × Nat) 49 (fun q => [(0, .slice a N c), (1, .int .i64 day), (2, .func (.func 190) #[] #[]), (8, .int .i64 N), (9, .int .i64 q.1), (10, .int .i64 q.2)]) [] (fun q => q.1 ≤ k ∧ k ≤ q.2 ∧ q.2 ≤ N) (fun q => q.2 - q.1) (0, N) ⟨Nat.zero_le _, hkN, Nat.le_refl _⟩ ?_
  rintro ⟨i, j⟩ J ⟨hi, hj, hjN⟩ back
  simp only at hi hj hjN back ⊢
  cases hlt : decide ((i : Int) < (j : Int)) with
  | false =>
    obtain rfl : i = k := by have := of_decide_eq_false hlt; omega
    cases hiN : decide ((i : Int) < (N : Int)) with
    | false =>
      refine Goes.run [0, 0, 0] [(decide ((i : Int) < (N : Int)), false), (decide ((i : Int) < (j : Int)), false)] ⟨hiN, hlt, trivial⟩ ?_
      exact Goes.ret [] (.tuple #[.int .i64 i, .bool false]) fun w' hm hI => ⟨false, fun q hq => by have := (List.getElem?_eq_some_iff.1 hq).1; have := of_decide_eq_false hiN; omega, fun _ => rfl, rfl, bel0 hI⟩
    | true =>
      have hil : i < N := by have := of_decide_eq_true hiN; omega
      obtain ⟨q, hq⟩ : ∃ q, l[i]? = some q := ⟨l[i]'(by omega), by simp⟩
      obtain ⟨b, o, rfl, hb, x1, x2⟩ := hst i q hq
      refine Goes.run [0, 0, 1] [(decide ((i : Int) < (N : Int)), true), (decide ((i : Int) < (j : Int)), false)] ⟨hiN, hlt, trivial⟩ ?_
      refine Goes.val (Instr.indexAt 160 (.slice (some ⟨b, o, none⟩) N c) (.int .i64 i)) (.pointer (some ⟨b, o + i * 2, none⟩)) (fun w' _ _ => idxT b o N c i hil w') ?_
      refine Goes.val (Instr.loadAt 164 (.pointer (some ⟨b, o + i * 2, none⟩))) (.agg #[.int .i64 q.1, .int .i64 q.2]) (fun w' _ hI => loadSt (((bel0 hI).cell (p := ⟨b, o + i * 2, none⟩) hb).trans x1) (((bel0 hI).cell (p := ⟨b, o + i * 2 + 1, none⟩) hb).trans x2)) ?_
      refine Goes.run [] [] trivial ?_
      refine Goes.call0 190 #[.agg #[.int .i64 q.1, .int .i64 q.2], .int .i64 day] (.int .i64 (Lib.compareInt q.1 day)) (fun w' _ _ => vtold2_any q.1 q.2 day w') ?_
      refine Goes.run [] [] trivial ?_
      exact Goes.ret [] (.tuple #[.int .i64 i, .bool (Lib.compareInt q.1 day == 0)]) fun w' hm hI => ⟨_, fun q' hq' => by rw [hq] at hq'; cases hq'; rfl, fun h => (by rw [hq] at h; cases h), rfl, bel0 hI⟩
  | true =>
    have hij : i < j := by have := of_decide_eq_true hlt; omega
    refine Goes.run [0, 1] [(decide ((i : Int) < (j : Int)), true)] ⟨hlt, trivial⟩ ?_
    refine Goes.slot 20 (.int .i64 ((i + j : Nat) : Int)) (u := .int .i64 (IntKind.i64.wrap ((i : Int) + (j : Int)))) (congrArg _ (by rw [IntWalk.i64_in _ ⟨by omega, by omega⟩]; omega)) ?_
    refine Goes.upto 24 [0, 0] [] trivial ?_
    obtain ⟨h, hh⟩ : ∃ h, (i + j) / 2 = h := ⟨_, rfl⟩
    refine Goes.slot 11 (.int .i64 ((h : Nat) : Int)) (u := .int .i64 (hfE (i + j))) (congrArg _ (by rw [hf_eq (by omega), hh])) ?_
    have hhi : i ≤ h ∧ h < j := by omega
    obtain ⟨q, hq⟩ : ∃ q, l[h]? = some q := ⟨l[h]'(by omega), by simp⟩
    obtain ⟨b, o, rfl, hb, x1, x2⟩ := hst h q hq
    refine Goes.run [] [] trivial ?_
    refine Goes.val (Instr.indexAt 160 (.slice (some ⟨b, o, none⟩) N c) (.int .i64 h)) (.pointer (some ⟨b, o + h * 2, none⟩)) (fun w' _ _ => idxT b o N c h (by omega) w') ?_
    refine Goes.val (Instr.loadAt 164 (.pointer (some ⟨b, o + h * 2, none⟩))) (.agg #[.int .i64 q.1, .int .i64 q.2]) (fun w' _ hI => loadSt (((bel0 hI).cell (p := ⟨b, o + h * 2, none⟩) hb).trans x1) (((bel0 hI).cell (p := ⟨b, o + h * 2 + 1, none⟩) hb).trans x2)) ?_
    refine Goes.run [] [] trivial ?_
    refine Goes.call0 190 #[.agg #[.int .i64 q.1, .int .i64 q.2], .int .i64 day] (.int .i64 (Lib.compareInt q.1 day)) (fun w' _ _ => vtold2_any q.1 q.2 day w') ?_
    have hiff := hk h q hq
    cases hcm : decide (Lib.compareInt q.1 day < 0) with
    | true =>
      have hlk : h < k := hiff.1 (by rw [← cmpi_lt]; exact hcm)
      refine Goes.run [1] [(decide (Lib.compareInt q.1 day < 0), true)] ⟨hcm, trivial⟩ ?_
      refine Goes.slot 9 (.int .i64 (h + 1 : Nat)) (u := .int .i64 (IntKind.i64.wrap ((h : Int) + 1))) (congrArg _ (wrap_nat (by omega))) ?_
      exact back (h + 1, j) _ ⟨hlk, hj, hjN⟩ (by simp only; omega) (by kernel_chk) (by kernel_chk) (by kernel_chk)
    | false =>
      have hlk : ¬ h < k := fun hl => by
        have := hiff.2 hl
        rw [← cmpi_lt] at this
        rw [hcm] at this
        cases this
      refine Goes.run [0] [(decide (Lib.compareInt q.1 day < 0), false)] ⟨hcm, trivial⟩ ?_
      exact back (i, h) _ ⟨hi, by omega, by omega⟩ (by simp only; omega) (by kernel_chk) (by kernel_chk) (by kernel_chk)
theorem vsrcF {fs : Fs} {v : Value} {w : World} (hF : Fds w.heap.size w v fs) (hR : RFd fs) (name : List UInt8) : Calls Tryz.prog 186 #[v, strV name, .func (.func 187) #[] #[]] w fun e w' => e = .returned (.tuple #[.int .i64 (posN name fs : Nat), .bool (fndN name fs)]) ∧ Below w.heap.size w w' :=
  (vsearchF_any hF (by have := hR.len; omega) hR.rise name).mono fun e w' ⟨B, h1, h2, he, hB⟩ => ⟨by
    have : B = fndN name fs := by
      unfold fndN
      cases hq : fs[posN name fs]? with
      | none => exact h2 hq
      | some f => exact h1 f hq
    rw [he, this], hB⟩
theorem vsrcT {l : List (Int × Int)} {v : Value} {w : World} (hF : Sts w.heap.size w v l) (hl : l.length ≤ 4096) (hR : RiseD l) (day : Int) : Calls Tryz.prog 189 #[v, .int .i64 day, .func (.func 190) #[] #[]] w fun e w' => e = .returned (.tuple #[.int .i64 (posD day l : Nat), .bool (fndD day l)]) ∧ Below w.heap.size w w' :=
  (vsearchT_any hF (by omega) hR day).mono fun e w' ⟨B, h1, h2, he, hB⟩ => ⟨by
    have : B = fndD day l := by
      unfold fndD
      cases hq : l[posD day l]? with
      | none => exact h2 hq
      | some f => exact h1 f hq
    rw [he, this], hB⟩
set_option maxRecDepth 100000 in
seal rn rnN rnS Goes ans atEnd put0 putM opened openedY putA0 putA oneSt st0 keep in
theorem vtold_any {fs : Fs} {a : Option Addr} {N c : Nat} (hR : RFd fs) (day : Int) (name : List UInt8) (d : Int) (hd : -1000000 ≤ d ∧ d ≤ 1000000) {w : World} (hF : Fds w.heap.size w (.slice a N c) fs) : Calls Tryz.prog 145 #[dwV day (.slice a N c), strV name, .int .i64 d] w fun e w' => e = .returned (oV (fedP name d fs)) ∧ Below w.heap.size w w' := by
  have hat := fed_at (name := name) (day := d) hR.rise
  refine Goes.begin Tryz.func145 [] (fun _ => True) Holds.nil (by simp [Mem.ids]) (fun _ _ => trivial) ?_
  refine Goes.run1 [0] [] trivial fun g => ?_
  refine Goes.call0 186 #[.slice a N c, strV name, .func (.func 187) #[] #[]] (.tuple #[.int .i64 (posN name fs : Nat), .bool (fndN name fs)]) (fun w' _ hI => vsrcF (hF.at (bel0 hI)) hR name) ?_
  cases hB : fndN name fs with
  | false =>
    have hnone : fedP name d fs = none := by
      rw [hat]
      unfold fndN at hB
      cases hq : fs[posN name fs]? with
      | none => rfl
      | some f => rw [hq] at hB; simp only at hB ⊢; rw [hB]; rfl
    rw [hnone]
    refine Goes.run [1] [(true, true)] ⟨rfl, trivial⟩ ?_
    exact Goes.ret [] (.tuple #[.int .i64 0, .bool false]) fun w' hm hI => ⟨rfl, bel0 hI⟩
  | true =>
    obtain ⟨f, hf, hfn⟩ : ∃ f, fs[posN name fs]? = some f ∧ decide (f.1 = name) = true := by
      unfold fndN at hB
      cases hq : fs[posN name fs]? with
      | none => rw [hq] at hB; cases hB
      | some f => rw [hq] at hB; exact ⟨f, rfl, hB⟩
    rw [hf] at hat
    simp only [hfn, cond_true] at hat
    obtain ⟨-, hlen, hrise, -⟩ := hR.each f (List.mem_of_getElem? hf)
    rw [stp_at hrise] at hat
    rw [hat]
    obtain ⟨p, hp⟩ : ∃ p, posN name fs = p := ⟨_, rfl⟩
    rw [hp] at hf ⊢
    have hF0 := hF
    obtain ⟨a', c', he, hc, hfs⟩ := hF
    cases he
    obtain ⟨b, o, u, rfl, hb, x1, x2, hst⟩ := hfs p f hf
    have hst0 := hst
    obtain ⟨a2, c2, rfl, hc2, hst2⟩ := hst
    obtain ⟨M, hM⟩ : ∃ M, f.2.length = M := ⟨_, rfl⟩
    rw [hM] at x2 hlen hst0 hc2
    have hpl : p < fs.length := (List.getElem?_eq_some_iff.1 hf).1
    obtain ⟨N, hN⟩ : ∃ N, fs.length = N := ⟨_, rfl⟩
    rw [hN] at hpl hc ⊢
    refine Goes.run [0, 0] [(false, false)] ⟨rfl, trivial⟩ ?_
    refine Goes.val (Instr.indexAt 36 (.slice (some ⟨b, o, none⟩) N c) (.int .i64 p)) (.pointer (some ⟨b, o + p * 2, none⟩)) (fun w' _ _ => idxF b o N c p hpl w') ?_
    refine Goes.run [] [] trivial ?_
    refine Goes.val (Instr.loadAt 160 (.pointer (some ⟨b, o + p * 2 + 1, none⟩))) (.slice a2 M c2) (fun w' _ hI => load1 Tryz.isAgg160 (((bel0 hI).cell (p := ⟨b, o + p * 2 + 1, none⟩) hb).trans x2)) ?_
    refine Goes.upto 32 [] [] trivial ?_
    refine Goes.slot 31 (.int .i64 (d + 1)) (u := .int .i64 (IntKind.i64.wrap (d + 1))) (congrArg _ (IntWalk.i64_in _ ⟨by omega, by omega⟩)) ?_
    obtain ⟨m, hm⟩ : ∃ m, posD (d + 1) f.2 = m := ⟨_, rfl⟩
    refine Goes.call0 189 #[.slice a2 M c2, .int .i64 (d + 1), .func (.func 190) #[] #[]] (.tuple #[.int .i64 (m : Nat), .bool (fndD (d + 1) f.2)]) (fun w' _ hI => by have := vsrcT ((hst0.later (bel0 hI)).more (bel0 hI).size) (by omega) hrise (d + 1); rwa [hm] at this) ?_
    rw [hm]
    cases h0 : ((m : Int) == 0) with
    | true =>
      have hm0 : m = 0 := by have := eq_of_beq h0; omega
      have hv : (bif m == 0 then none else (f.2[m - 1]?).map (·.2)) = none := by rw [hm0]; rfl
      rw [hv]
      refine Goes.run [1] [((m : Int) == 0, true)] ⟨h0, trivial⟩ ?_
      exact Goes.ret [] (.tuple #[.int .i64 0, .bool false]) fun w' hm hI => ⟨rfl, bel0 hI⟩
    | false =>
      have hm0 : m ≠ 0 := fun e => by rw [e] at h0; cases h0
      have hmM : m ≤ M := by rw [← hm, ← hM]; exact posD_le _ _
      obtain ⟨q, hq⟩ : ∃ q, f.2[m - 1]? = some q := ⟨f.2[m - 1]'(by omega), by simp⟩
      obtain ⟨b2, o2, rfl, hb2, y1, y2⟩ := hst2 (m - 1) q hq
      have hv : (bif m == 0 then none else (f.2[m - 1]?).map (·.2)) = some q.2 := by
        rw [beq_false_of_ne hm0, cond_false, hq]; rfl
      rw [hv]
      refine Goes.upto 40 [0] [((m : Int) == 0, false)] ⟨h0, trivial⟩ ?_
      refine Goes.slot 39 (.int .i64 ((m - 1 : Nat) : Int)) (u := .int .i64 (IntKind.i64.wrap ((m : Int) - 1))) (congrArg _ (by rw [IntWalk.i64_in _ ⟨by omega, by omega⟩]; omega)) ?_
      refine Goes.val (Instr.indexAt 160 (.slice (some ⟨b2, o2, none⟩) M c2) (.int .i64 ((m - 1 : Nat) : Int))) (.pointer (some ⟨b2, o2 + (m - 1) * 2, none⟩)) (fun w' _ _ => idxT b2 o2 M c2 (m - 1) (by omega) w') ?_
      refine Goes.run [] [] trivial ?_
      refine Goes.val (Instr.loadAt 2 (.pointer (some ⟨b2, o2 + (m - 1) * 2 + 1, none⟩))) (.int .i64 q.2) (fun w' _ hI => load1 Tryz.isAgg2 (((bel0 hI).cell (p := ⟨b2, o2 + (m - 1) * 2 + 1, none⟩) hb2).trans y2)) ?_
      refine Goes.run [] [] trivial ?_
      exact Goes.ret [] (.tuple #[.int .i64 q.2, .bool true]) fun w' hm hI => ⟨rfl, bel0 hI⟩
end Go.Proofs.YtddbiiejilcbbaaGreatDoor
namespace Go.Proofs.YtddbiiejilcbbaaGreatDoor
open Go Go.RowKit

/-- What runs stand on: feeds, the months' days, below n0. -/
structure En (n0 : Nat) (fs : Fs) (fv : Value) (w : World) : Prop where
  fds : Fds n0 w fv fs
  tab : Tab w
  tl : 1 < n0
  low : n0 ≤ w.heap.size
theorem En.bel {n0 : Nat} {fs : Fs} {fv : Value} {w w' : World} (h : En n0 fs fv w) (hB : Below n0 w w') : En n0 fs fv w' := ⟨h.fds.later hB, fun k hk => (hB.cell (p := ⟨1, k, none⟩) h.tl).trans (h.tab k hk), h.tl, Nat.le_trans h.low hB.size⟩
theorem En.fd {n0 : Nat} {fs : Fs} {fv : Value} {w : World} (h : En n0 fs fv w) : Fds w.heap.size w fv fs := h.fds.more h.low
theorem En.tb {n0 : Nat} {fs : Fs} {fv : Value} {w : World} (h : En n0 fs fv w) : Tab w := h.tab
theorem En.ch {n0 g : Nat} {fs : Fs} {fv : Value} {w w' : World} (h : En n0 fs fv w) (hc : Ch [g] w w') (hg : n0 ≤ g) : En n0 fs fv w' := h.bel ⟨hc.os, hc.tape, hc.output, hc.size, fun i hi => hc.block i (by have := h.low; omega) (fun hx => by rw [List.mem_singleton] at hx; omega)⟩
section
variable {w : World} {g n0 : Nat} {r : Rg} {fs : Fs} {a : Option Addr} {N c : Nat}
set_option maxHeartbeats 2000000 in
set_option maxRecDepth 100000 in
seal rn rnN rnS Goes ans atEnd put0 put putM opened openedY putA0 putA oneSt st0 keep mkSt newSt rnO in
theorem feed_any (h : w.heap[g]? = some (rnO r)) (hR : RFd fs) (hE : En n0 fs (.slice a N c) w) (hg0 : n0 ≤ g) {day : Int} (hd : 0 ≤ day ∧ day ≤ 73048) (x : Ik) (ha : 0 ≤ x.a ∧ x.a < 256) (hn : 0 ≤ x.n ∧ x.n ≤ 3660) (hop : x.op = 2) : Calls Tryz.prog 111 #[.pointer (some ⟨g, 0, none⟩), iV x, dwV day (.slice a N c)] w (RnQ g w (doQ fs day x r)) := by
  obtain ⟨op, xa, xb, xc, xn, s, to⟩ := x
  obtain rfl : op = 2 := hop
  replace ha : 0 ≤ xa ∧ xa < 256 := ha
  replace hn : 0 ≤ xn ∧ xn ≤ 3660 := hn
  have hq : doQ fs day ⟨2, xa, xb, xc, xn, s, to⟩ r = (match fedP s (day - xn) fs with | some v => r.put xa v | none => r.go to true) := rfl
  rw [hq]
  refine Goes.begin Tryz.func111 [(g, rnO r)] (fun _ => True) (hold1v h) (by simp [Mem.ids]) (fun _ _ => trivial) ?_
  refine Goes.run [] [] trivial ?_
  refine Goes.new1 w.heap.size (fun w' h => h.1.size) fun g4 hg4 => ?_
  refine Goes.run [] [] trivial ?_
  refine Goes.new1 w.heap.size (fun w' h => h.1.size) fun g5 hg5 => ?_
  have hlt := lt_of_get h
  refine Goes.run [2, 1, 2, 1] [] trivial ?_
  refine Goes.slot 16 (.int .i64 (day - xn)) (u := .int .i64 (IntKind.i64.wrap (day - xn))) (congrArg _ (IntWalk.i64_in _ ⟨by omega, by omega⟩)) ?_
  refine Goes.call0 145 #[dwV day (.slice a N c), strV s, .int .i64 (day - xn)] (oV (fedP s (day - xn) fs)) (fun w' hm hI => vtold_any hR day s (day - xn) ⟨by omega, by omega⟩ (hE.ch hI.now.1 hg0).fd) ?_
  cases hv : fedP s (day - xn) fs with
  | some v =>
    refine Goes.run [1] [(true, true)] ⟨rfl, trivial⟩ ?_
    refine Goes.open [1] ?_
    refine Goes.run [0, 1, 2, 0, 3, 4, 5] [] trivial ?_
    refine Goes.valA 6 (Instr.indexAt 123 (.pointer (some ⟨g, 0, none⟩)) (.int .i64 xa)) (.pointer (some ⟨g, xa.toNat, none⟩)) (fun w' _ => idxRg g ha w') ?_
    refine Goes.lone1 7 (TookS.stoK 7 0 g (Instr.storeAt 2 (.pointer (some ⟨g, xa.toNat, none⟩)) (.int .i64 v)) (rnO (r.put xa v)) (fun w' hm => rn_st (hm.get 0) ha v) [(g4, .cells (iC ⟨2, xa, xb, xc, xn, s, to⟩).toArray 72 (0, 0))] (fun q hq => by simp at hq; subst hq; simp only; omega) ?_)
    refine Goes.run [1] [] trivial ?_
    refine Goes.call2 0 g 113 #[.pointer (some ⟨g, 0, none⟩), .int .i64 to, .bool false] (.tuple #[]) (rnO ((r.put xa v).go to false)) (fun w' hm hI => jump_any (hm.get 0) to false) ?_
    refine Goes.run [] [] trivial ?_
    exact Goes.ret [] (.tuple #[]) fun w' hm hI => ⟨rfl, hI.now.1, hm.get 0⟩
  | none =>
    refine Goes.run [0, 1] [(false, false)] ⟨rfl, trivial⟩ ?_
    refine Goes.call2 0 g 113 #[.pointer (some ⟨g, 0, none⟩), .int .i64 to, .bool true] (.tuple #[]) (rnO (r.go to true)) (fun w' hm hI => jump_any (hm.get 0) to true) ?_
    refine Goes.run [] [] trivial ?_
    exact Goes.ret [] (.tuple #[]) fun w' hm hI => ⟨rfl, hI.now.1, hm.get 0⟩
end
end Go.Proofs.YtddbiiejilcbbaaGreatDoor
namespace Go.Proofs.YtddbiiejilcbbaaGreatDoor
open Go Go.RowKit

set_option maxRecDepth 100000 in
seal rn rnS Goes ans atEnd put0 putM opened putA0 oneSt st0 in
theorem vtruth_any (b : Bool) (w : World) : Calls Tryz.prog 149 #[.bool b] w fun e w' => e = .returned (.int .i64 (trP b)) ∧ Below w.heap.size w w' := by
  refine Goes.begin Tryz.func149 [] (fun _ => True) Holds.nil (by simp [Mem.ids]) (fun _ _ => trivial) ?_
  cases b with
  | true =>
    refine Goes.run [1] [(true, true)] ⟨rfl, trivial⟩ ?_
    exact Goes.ret [] (.int .i64 1) fun w' hm hI => ⟨rfl, bel0 hI⟩
  | false =>
    refine Goes.run [0] [(false, false)] ⟨rfl, trivial⟩ ?_
    exact Goes.ret [] (.int .i64 0) fun w' hm hI => ⟨rfl, bel0 hI⟩
set_option maxRecDepth 100000 in
seal rn rnS Goes ans atEnd put0 putM opened putA0 oneSt st0 in
theorem vreck_any (op b c : Int) (w : World) (ht : Tab w) : Calls Tryz.prog 117 #[.int .i64 op, .int .i64 b, .int .i64 c] w fun e w' => e = .returned (.int .i64 (vkP op b c)) ∧ Below w.heap.size w w' := by
  refine Goes.begin Tryz.func117 [] (fun _ => True) Holds.nil (by simp [Mem.ids]) (fun _ _ => trivial) ?_
  cases h4 : (op == 4) with
  | true =>
    refine Goes.run [1] [(op == 4, true)] ⟨h4, trivial⟩ ?_
    refine Goes.call0 115 #[.int .i64 (b)] (.int .i64 (- clampI b)) (fun w' _ hI => (neg_any b w').mono fun _ _ h => belQ h) ?_
    refine Goes.run [] [] trivial ?_
    exact Goes.ret [] (.int .i64 (- clampI b)) fun w' hm hI => ⟨by unfold vkP; rw [h4] <;> rfl, bel0 hI⟩
  | false =>
  cases h12 : (op == 12) with
  | true =>
    refine Goes.run [0, 1] [(op == 12, true), (op == 4, false)] ⟨h12, h4, trivial⟩ ?_
    refine Goes.call0 149 #[.bool (b == 0)] (.int .i64 (trP (b == 0))) (fun w' _ hI => vtruth_any _ w') ?_
    refine Goes.run [] [] trivial ?_
    exact Goes.ret [] (.int .i64 (trP (b == 0))) fun w' hm hI => ⟨by unfold vkP; rw [h4, h12] <;> rfl, bel0 hI⟩
  | false =>
  cases h5 : (op == 5) with
  | true =>
    refine Goes.run [0, 0, 1] [(op == 5, true), (op == 12, false), (op == 4, false)] ⟨h5, h12, h4, trivial⟩ ?_
    refine Goes.call0 150 #[.int .i64 (b), .int .i64 (c)] (.int .i64 (clampI (clampI b + clampI c))) (fun w' _ hI => (add_any b c w').mono fun _ _ h => belQ h) ?_
    refine Goes.run [] [] trivial ?_
    exact Goes.ret [] (.int .i64 (clampI (clampI b + clampI c))) fun w' hm hI => ⟨by unfold vkP; rw [h4, h12, h5] <;> rfl, bel0 hI⟩
  | false =>
  cases h6 : (op == 6) with
  | true =>
    refine Goes.run [0, 0, 0, 1] [(op == 6, true), (op == 5, false), (op == 12, false), (op == 4, false)] ⟨h6, h5, h12, h4, trivial⟩ ?_
    refine Goes.call0 151 #[.int .i64 (b), .int .i64 (c)] (.int .i64 (clampI (clampI b - clampI c))) (fun w' _ hI => (sub_any b c w').mono fun _ _ h => belQ h) ?_
    refine Goes.run [] [] trivial ?_
    exact Goes.ret [] (.int .i64 (clampI (clampI b - clampI c))) fun w' hm hI => ⟨by unfold vkP; rw [h4, h12, h5, h6] <;> rfl, bel0 hI⟩
  | false =>
  cases h7 : (op == 7) with
  | true =>
    refine Goes.run [0, 0, 0, 0, 1] [(op == 7, true), (op == 6, false), (op == 5, false), (op == 12, false), (op == 4, false)] ⟨h7, h6, h5, h12, h4, trivial⟩ ?_
    refine Goes.call0 114 #[.int .i64 (b), .int .i64 (c)] (.int .i64 (mulI b c)) (fun w' _ hI => (mul_any b c w').mono fun _ _ h => belD h) ?_
    refine Goes.run [] [] trivial ?_
    exact Goes.ret [] (.int .i64 (mulI b c)) fun w' hm hI => ⟨by unfold vkP; rw [h4, h12, h5, h6, h7] <;> rfl, bel0 hI⟩
  | false =>
  cases h8 : (op == 8) with
  | true =>
    refine Goes.run [0, 0, 0, 0, 0, 1] [(op == 8, true), (op == 7, false), (op == 6, false), (op == 5, false), (op == 12, false), (op == 4, false)] ⟨h8, h7, h6, h5, h12, h4, trivial⟩ ?_
    refine Goes.call0 152 #[.int .i64 (b), .int .i64 (c)] (.int .i64 (divI b c)) (fun w' _ hI => (div_any b c w').mono fun _ _ h => belD h) ?_
    refine Goes.run [] [] trivial ?_
    exact Goes.ret [] (.int .i64 (divI b c)) fun w' hm hI => ⟨by unfold vkP; rw [h4, h12, h5, h6, h7, h8] <;> rfl, bel0 hI⟩
  | false =>
  cases h9 : (op == 9) with
  | true =>
    refine Goes.run [0, 0, 0, 0, 0, 0, 1, 1] [(op == 9, true), (op == 9, true), (op == 8, false), (op == 7, false), (op == 6, false), (op == 5, false), (op == 12, false), (op == 4, false)] ⟨h9, h9, h8, h7, h6, h5, h12, h4, trivial⟩ ?_
    refine Goes.call0 149 #[.bool (decide (b < c))] (.int .i64 (trP (decide (b < c)))) (fun w' _ hI => vtruth_any _ w') ?_
    refine Goes.run [] [] trivial ?_
    exact Goes.ret [] (.int .i64 (trP (decide (b < c)))) fun w' hm hI => ⟨by unfold vkP; rw [h4, h12, h5, h6, h7, h8, h9] <;> rfl, bel0 hI⟩
  | false =>
  cases h13 : (op == 13) with
  | true =>
    refine Goes.run [0, 0, 0, 0, 0, 0, 0, 1] [(op == 13, true), (op == 9, false), (op == 8, false), (op == 7, false), (op == 6, false), (op == 5, false), (op == 12, false), (op == 4, false)] ⟨h13, h9, h8, h7, h6, h5, h12, h4, trivial⟩ ?_
    refine Goes.call0 149 #[.bool (decide (b < c))] (.int .i64 (trP (decide (b < c)))) (fun w' _ hI => vtruth_any _ w') ?_
    refine Goes.run [] [] trivial ?_
    exact Goes.ret [] (.int .i64 (trP (decide (b < c)))) fun w' hm hI => ⟨by unfold vkP; rw [h4, h12, h5, h6, h7, h8, h9, h13] <;> rfl, bel0 hI⟩
  | false =>
  cases h10 : (op == 10) with
  | true =>
    refine Goes.run [0, 0, 0, 0, 0, 0, 0, 0, 1] [(op == 10, true), (op == 13, false), (op == 9, false), (op == 8, false), (op == 7, false), (op == 6, false), (op == 5, false), (op == 12, false), (op == 4, false)] ⟨h10, h13, h9, h8, h7, h6, h5, h12, h4, trivial⟩ ?_
    refine Goes.call0 149 #[.bool (decide (b ≤ c))] (.int .i64 (trP (decide (b ≤ c)))) (fun w' _ hI => vtruth_any _ w') ?_
    refine Goes.run [] [] trivial ?_
    exact Goes.ret [] (.int .i64 (trP (decide (b ≤ c)))) fun w' hm hI => ⟨by unfold vkP; rw [h4, h12, h5, h6, h7, h8, h9, h13, h10] <;> rfl, bel0 hI⟩
  | false =>
  cases h11 : (op == 11) with
  | true =>
    refine Goes.run [0, 0, 0, 0, 0, 0, 0, 0, 0, 1] [(op == 11, true), (op == 10, false), (op == 13, false), (op == 9, false), (op == 8, false), (op == 7, false), (op == 6, false), (op == 5, false), (op == 12, false), (op == 4, false)] ⟨h11, h10, h13, h9, h8, h7, h6, h5, h12, h4, trivial⟩ ?_
    refine Goes.call0 149 #[.bool (b == c)] (.int .i64 (trP (b == c))) (fun w' _ hI => vtruth_any _ w') ?_
    refine Goes.run [] [] trivial ?_
    exact Goes.ret [] (.int .i64 (trP (b == c))) fun w' hm hI => ⟨by unfold vkP; rw [h4, h12, h5, h6, h7, h8, h9, h13, h10, h11] <;> rfl, bel0 hI⟩
  | false =>
  cases h14 : (op == 14) with
  | true =>
    refine Goes.run [0, 0, 0, 0, 0, 0, 0, 0, 0, 0, 1] [(op == 14, true), (op == 11, false), (op == 10, false), (op == 13, false), (op == 9, false), (op == 8, false), (op == 7, false), (op == 6, false), (op == 5, false), (op == 12, false), (op == 4, false)] ⟨h14, h11, h10, h13, h9, h8, h7, h6, h5, h12, h4, trivial⟩ ?_
    refine Goes.call0 153 #[.int .i64 (c)] (.int .i64 (whoI c)) (fun w' _ hI => (whole_any c w').mono fun _ _ h => belQ h) ?_
    refine Goes.call0 112 #[.int .i64 (b), .int .i64 (whoI c)] (.int .i64 (((plusV b (whoI c) : Nat) : Int))) (fun w' _ hI => (plus_any b (whoI c) w').mono fun _ _ h => belQ h) ?_
    refine Goes.run [] [] trivial ?_
    exact Goes.ret [] (.int .i64 (((plusV b (whoI c) : Nat) : Int))) fun w' hm hI => ⟨by unfold vkP; rw [h4, h12, h5, h6, h7, h8, h9, h13, h10, h11, h14] <;> rfl, bel0 hI⟩
  | false =>
  cases h15 : (op == 15) with
  | true =>
    refine Goes.run [0, 0, 0, 0, 0, 0, 0, 0, 0, 0, 0, 1] [(op == 15, true), (op == 14, false), (op == 11, false), (op == 10, false), (op == 13, false), (op == 9, false), (op == 8, false), (op == 7, false), (op == 6, false), (op == 5, false), (op == 12, false), (op == 4, false)] ⟨h15, h14, h11, h10, h13, h9, h8, h7, h6, h5, h12, h4, trivial⟩ ?_
    refine Goes.call0 153 #[.int .i64 (c)] (.int .i64 (whoI c)) (fun w' _ hI => (whole_any c w').mono fun _ _ h => belQ h) ?_
    refine Goes.call0 154 #[.int .i64 (b), .int .i64 (whoI c)] (.int .i64 (monI b (whoI c))) (fun w' _ hI => pmonI_any b (whoI c) w' (ht.below (bel0 hI))) ?_
    refine Goes.run [] [] trivial ?_
    exact Goes.ret [] (.int .i64 (monI b (whoI c))) fun w' hm hI => ⟨by unfold vkP; rw [h4, h12, h5, h6, h7, h8, h9, h13, h10, h11, h14, h15] <;> rfl, bel0 hI⟩
  | false =>
  cases h16 : (op == 16) with
  | true =>
    refine Goes.run [0, 0, 0, 0, 0, 0, 0, 0, 0, 0, 0, 0, 1] [(op == 16, true), (op == 15, false), (op == 14, false), (op == 11, false), (op == 10, false), (op == 13, false), (op == 9, false), (op == 8, false), (op == 7, false), (op == 6, false), (op == 5, false), (op == 12, false), (op == 4, false)] ⟨h16, h15, h14, h11, h10, h13, h9, h8, h7, h6, h5, h12, h4, trivial⟩ ?_
    refine Goes.call0 155 #[.int .i64 (b), .int .i64 (c)] (.int .i64 (shareV ((clampD c : Int) - (clampD b : Int)) 365)) (fun w' _ hI => (years_any b c w').mono fun _ _ h => belD h) ?_
    refine Goes.run [] [] trivial ?_
    exact Goes.ret [] (.int .i64 (shareV ((clampD c : Int) - (clampD b : Int)) 365)) fun w' hm hI => ⟨by unfold vkP; rw [h4, h12, h5, h6, h7, h8, h9, h13, h10, h11, h14, h15, h16] <;> rfl, bel0 hI⟩
  | false =>
  cases h17 : (op == 17) with
  | true =>
    refine Goes.run [0, 0, 0, 0, 0, 0, 0, 0, 0, 0, 0, 0, 0, 1] [(op == 17, true), (op == 16, false), (op == 15, false), (op == 14, false), (op == 11, false), (op == 10, false), (op == 13, false), (op == 9, false), (op == 8, false), (op == 7, false), (op == 6, false), (op == 5, false), (op == 12, false), (op == 4, false)] ⟨h17, h16, h15, h14, h11, h10, h13, h9, h8, h7, h6, h5, h12, h4, trivial⟩ ?_
    refine Goes.call0 156 #[.int .i64 (b), .int .i64 (c)] (.int .i64 (y30I b c)) (fun w' _ hI => py30I_any b c w' (ht.below (bel0 hI))) ?_
    refine Goes.run [] [] trivial ?_
    exact Goes.ret [] (.int .i64 (y30I b c)) fun w' hm hI => ⟨by unfold vkP; rw [h4, h12, h5, h6, h7, h8, h9, h13, h10, h11, h14, h15, h16, h17] <;> rfl, bel0 hI⟩
  | false =>
    refine Goes.run [0, 0, 0, 0, 0, 0, 0, 0, 0, 0, 0, 0, 0, 0] [(op == 17, false), (op == 16, false), (op == 15, false), (op == 14, false), (op == 11, false), (op == 10, false), (op == 13, false), (op == 9, false), (op == 8, false), (op == 7, false), (op == 6, false), (op == 5, false), (op == 12, false), (op == 4, false)] ⟨h17, h16, h15, h14, h11, h10, h13, h9, h8, h7, h6, h5, h12, h4, trivial⟩ ?_
    exact Goes.ret [] (.int .i64 (b)) fun w' hm hI => ⟨by unfold vkP; rw [h4, h12, h5, h6, h7, h8, h9, h13, h10, h11, h14, h15, h16, h17] <;> rfl, bel0 hI⟩
set_option maxRecDepth 100000 in
seal rn rnS Goes ans atEnd put0 putM opened putA0 oneSt st0 in
theorem dtruth_any (b : Bool) (w : World) : Calls Tryz.prog 91 #[.bool b] w fun e w' => e = .returned (.int .i64 (trP b)) ∧ Below w.heap.size w w' := by
  refine Goes.begin Tryz.func91 [] (fun _ => True) Holds.nil (by simp [Mem.ids]) (fun _ _ => trivial) ?_
  cases b with
  | true =>
    refine Goes.run [1] [(true, true)] ⟨rfl, trivial⟩ ?_
    exact Goes.ret [] (.int .i64 1) fun w' hm hI => ⟨rfl, bel0 hI⟩
  | false =>
    refine Goes.run [0] [(false, false)] ⟨rfl, trivial⟩ ?_
    exact Goes.ret [] (.int .i64 0) fun w' hm hI => ⟨rfl, bel0 hI⟩
set_option maxRecDepth 100000 in
seal rn rnS Goes ans atEnd put0 putM opened putA0 oneSt st0 in
theorem dreck_any (op b c : Int) (w : World) : Calls Tryz.prog 52 #[.int .i64 op, .int .i64 b, .int .i64 c] w fun e w' => e = .returned (.int .i64 (vkP op b c)) ∧ Below w.heap.size w w' := by
  refine Goes.begin Tryz.func52 [] (fun _ => True) Holds.nil (by simp [Mem.ids]) (fun _ _ => trivial) ?_
  cases h4 : (op == 4) with
  | true =>
    refine Goes.run [1] [(op == 4, true)] ⟨h4, trivial⟩ ?_
    refine Goes.call0 50 #[.int .i64 (b)] (.int .i64 (- clampI b)) (fun w' _ hI => (rneg_any b w').mono fun _ _ h => belQ h) ?_
    refine Goes.run [] [] trivial ?_
    exact Goes.ret [] (.int .i64 (- clampI b)) fun w' hm hI => ⟨by unfold vkP; rw [h4] <;> rfl, bel0 hI⟩
  | false =>
  cases h12 : (op == 12) with
  | true =>
    refine Goes.run [0, 1] [(op == 12, true), (op == 4, false)] ⟨h12, h4, trivial⟩ ?_
    refine Goes.call0 91 #[.bool (b == 0)] (.int .i64 (trP (b == 0))) (fun w' _ hI => dtruth_any _ w') ?_
    refine Goes.run [] [] trivial ?_
    exact Goes.ret [] (.int .i64 (trP (b == 0))) fun w' hm hI => ⟨by unfold vkP; rw [h4, h12] <;> rfl, bel0 hI⟩
  | false =>
  cases h5 : (op == 5) with
  | true =>
    refine Goes.run [0, 0, 1] [(op == 5, true), (op == 12, false), (op == 4, false)] ⟨h5, h12, h4, trivial⟩ ?_
    refine Goes.call0 92 #[.int .i64 (b), .int .i64 (c)] (.int .i64 (clampI (clampI b + clampI c))) (fun w' _ hI => (radd_any b c w').mono fun _ _ h => belQ h) ?_
    refine Goes.run [] [] trivial ?_
    exact Goes.ret [] (.int .i64 (clampI (clampI b + clampI c))) fun w' hm hI => ⟨by unfold vkP; rw [h4, h12, h5] <;> rfl, bel0 hI⟩
  | false =>
  cases h6 : (op == 6) with
  | true =>
    refine Goes.run [0, 0, 0, 1] [(op == 6, true), (op == 5, false), (op == 12, false), (op == 4, false)] ⟨h6, h5, h12, h4, trivial⟩ ?_
    refine Goes.call0 93 #[.int .i64 (b), .int .i64 (c)] (.int .i64 (clampI (clampI b - clampI c))) (fun w' _ hI => (rsub_any b c w').mono fun _ _ h => belQ h) ?_
    refine Goes.run [] [] trivial ?_
    exact Goes.ret [] (.int .i64 (clampI (clampI b - clampI c))) fun w' hm hI => ⟨by unfold vkP; rw [h4, h12, h5, h6] <;> rfl, bel0 hI⟩
  | false =>
  cases h7 : (op == 7) with
  | true =>
    refine Goes.run [0, 0, 0, 0, 1] [(op == 7, true), (op == 6, false), (op == 5, false), (op == 12, false), (op == 4, false)] ⟨h7, h6, h5, h12, h4, trivial⟩ ?_
    refine Goes.call0 49 #[.int .i64 (b), .int .i64 (c)] (.int .i64 (mulI b c)) (fun w' _ hI => (rmul_any b c w').mono fun _ _ h => belQ h) ?_
    refine Goes.run [] [] trivial ?_
    exact Goes.ret [] (.int .i64 (mulI b c)) fun w' hm hI => ⟨by unfold vkP; rw [h4, h12, h5, h6, h7] <;> rfl, bel0 hI⟩
  | false =>
  cases h8 : (op == 8) with
  | true =>
    refine Goes.run [0, 0, 0, 0, 0, 1] [(op == 8, true), (op == 7, false), (op == 6, false), (op == 5, false), (op == 12, false), (op == 4, false)] ⟨h8, h7, h6, h5, h12, h4, trivial⟩ ?_
    refine Goes.call0 94 #[.int .i64 (b), .int .i64 (c)] (.int .i64 (divI b c)) (fun w' _ hI => (rdiv_any b c w').mono fun _ _ h => belQ h) ?_
    refine Goes.run [] [] trivial ?_
    exact Goes.ret [] (.int .i64 (divI b c)) fun w' hm hI => ⟨by unfold vkP; rw [h4, h12, h5, h6, h7, h8] <;> rfl, bel0 hI⟩
  | false =>
  cases h9 : (op == 9) with
  | true =>
    refine Goes.run [0, 0, 0, 0, 0, 0, 1, 1] [(op == 9, true), (op == 9, true), (op == 8, false), (op == 7, false), (op == 6, false), (op == 5, false), (op == 12, false), (op == 4, false)] ⟨h9, h9, h8, h7, h6, h5, h12, h4, trivial⟩ ?_
    refine Goes.call0 91 #[.bool (decide (b < c))] (.int .i64 (trP (decide (b < c)))) (fun w' _ hI => dtruth_any _ w') ?_
    refine Goes.run [] [] trivial ?_
    exact Goes.ret [] (.int .i64 (trP (decide (b < c)))) fun w' hm hI => ⟨by unfold vkP; rw [h4, h12, h5, h6, h7, h8, h9] <;> rfl, bel0 hI⟩
  | false =>
  cases h13 : (op == 13) with
  | true =>
    refine Goes.run [0, 0, 0, 0, 0, 0, 0, 1] [(op == 13, true), (op == 9, false), (op == 8, false), (op == 7, false), (op == 6, false), (op == 5, false), (op == 12, false), (op == 4, false)] ⟨h13, h9, h8, h7, h6, h5, h12, h4, trivial⟩ ?_
    refine Goes.call0 91 #[.bool (decide (b < c))] (.int .i64 (trP (decide (b < c)))) (fun w' _ hI => dtruth_any _ w') ?_
    refine Goes.run [] [] trivial ?_
    exact Goes.ret [] (.int .i64 (trP (decide (b < c)))) fun w' hm hI => ⟨by unfold vkP; rw [h4, h12, h5, h6, h7, h8, h9, h13] <;> rfl, bel0 hI⟩
  | false =>
  cases h10 : (op == 10) with
  | true =>
    refine Goes.run [0, 0, 0, 0, 0, 0, 0, 0, 1] [(op == 10, true), (op == 13, false), (op == 9, false), (op == 8, false), (op == 7, false), (op == 6, false), (op == 5, false), (op == 12, false), (op == 4, false)] ⟨h10, h13, h9, h8, h7, h6, h5, h12, h4, trivial⟩ ?_
    refine Goes.call0 91 #[.bool (decide (b ≤ c))] (.int .i64 (trP (decide (b ≤ c)))) (fun w' _ hI => dtruth_any _ w') ?_
    refine Goes.run [] [] trivial ?_
    exact Goes.ret [] (.int .i64 (trP (decide (b ≤ c)))) fun w' hm hI => ⟨by unfold vkP; rw [h4, h12, h5, h6, h7, h8, h9, h13, h10] <;> rfl, bel0 hI⟩
  | false =>
  cases h11 : (op == 11) with
  | true =>
    refine Goes.run [0, 0, 0, 0, 0, 0, 0, 0, 0, 1] [(op == 11, true), (op == 10, false), (op == 13, false), (op == 9, false), (op == 8, false), (op == 7, false), (op == 6, false), (op == 5, false), (op == 12, false), (op == 4, false)] ⟨h11, h10, h13, h9, h8, h7, h6, h5, h12, h4, trivial⟩ ?_
    refine Goes.call0 91 #[.bool (b == c)] (.int .i64 (trP (b == c))) (fun w' _ hI => dtruth_any _ w') ?_
    refine Goes.run [] [] trivial ?_
    exact Goes.ret [] (.int .i64 (trP (b == c))) fun w' hm hI => ⟨by unfold vkP; rw [h4, h12, h5, h6, h7, h8, h9, h13, h10, h11] <;> rfl, bel0 hI⟩
  | false =>
  cases h14 : (op == 14) with
  | true =>
    refine Goes.run [0, 0, 0, 0, 0, 0, 0, 0, 0, 0, 1] [(op == 14, true), (op == 11, false), (op == 10, false), (op == 13, false), (op == 9, false), (op == 8, false), (op == 7, false), (op == 6, false), (op == 5, false), (op == 12, false), (op == 4, false)] ⟨h14, h11, h10, h13, h9, h8, h7, h6, h5, h12, h4, trivial⟩ ?_
    refine Goes.call0 96 #[.int .i64 (c)] (.int .i64 (whoI c)) (fun w' _ hI => (rwhole_any c w').mono fun _ _ h => belQ h) ?_
    refine Goes.call0 95 #[.int .i64 (b), .int .i64 (whoI c)] (.int .i64 (((plusV b (whoI c) : Nat) : Int))) (fun w' _ hI => (rplus_any b (whoI c) w').mono fun _ _ h => belQ h) ?_
    refine Goes.run [] [] trivial ?_
    exact Goes.ret [] (.int .i64 (((plusV b (whoI c) : Nat) : Int))) fun w' hm hI => ⟨by unfold vkP; rw [h4, h12, h5, h6, h7, h8, h9, h13, h10, h11, h14] <;> rfl, bel0 hI⟩
  | false =>
  cases h15 : (op == 15) with
  | true =>
    refine Goes.run [0, 0, 0, 0, 0, 0, 0, 0, 0, 0, 0, 1] [(op == 15, true), (op == 14, false), (op == 11, false), (op == 10, false), (op == 13, false), (op == 9, false), (op == 8, false), (op == 7, false), (op == 6, false), (op == 5, false), (op == 12, false), (op == 4, false)] ⟨h15, h14, h11, h10, h13, h9, h8, h7, h6, h5, h12, h4, trivial⟩ ?_
    refine Goes.call0 96 #[.int .i64 (c)] (.int .i64 (whoI c)) (fun w' _ hI => (rwhole_any c w').mono fun _ _ h => belQ h) ?_
    refine Goes.call0 97 #[.int .i64 (b), .int .i64 (whoI c)] (.int .i64 (monI b (whoI c))) (fun w' _ hI => rmonI_any b (whoI c) w') ?_
    refine Goes.run [] [] trivial ?_
    exact Goes.ret [] (.int .i64 (monI b (whoI c))) fun w' hm hI => ⟨by unfold vkP; rw [h4, h12, h5, h6, h7, h8, h9, h13, h10, h11, h14, h15] <;> rfl, bel0 hI⟩
  | false =>
  cases h16 : (op == 16) with
  | true =>
    refine Goes.run [0, 0, 0, 0, 0, 0, 0, 0, 0, 0, 0, 0, 1] [(op == 16, true), (op == 15, false), (op == 14, false), (op == 11, false), (op == 10, false), (op == 13, false), (op == 9, false), (op == 8, false), (op == 7, false), (op == 6, false), (op == 5, false), (op == 12, false), (op == 4, false)] ⟨h16, h15, h14, h11, h10, h13, h9, h8, h7, h6, h5, h12, h4, trivial⟩ ?_
    refine Goes.call0 98 #[.int .i64 (b), .int .i64 (c)] (.int .i64 (shareV ((clampD c : Int) - (clampD b : Int)) 365)) (fun w' _ hI => (ryears_any b c w').mono fun _ _ h => belQ h) ?_
    refine Goes.run [] [] trivial ?_
    exact Goes.ret [] (.int .i64 (shareV ((clampD c : Int) - (clampD b : Int)) 365)) fun w' hm hI => ⟨by unfold vkP; rw [h4, h12, h5, h6, h7, h8, h9, h13, h10, h11, h14, h15, h16] <;> rfl, bel0 hI⟩
  | false =>
  cases h17 : (op == 17) with
  | true =>
    refine Goes.run [0, 0, 0, 0, 0, 0, 0, 0, 0, 0, 0, 0, 0, 1] [(op == 17, true), (op == 16, false), (op == 15, false), (op == 14, false), (op == 11, false), (op == 10, false), (op == 13, false), (op == 9, false), (op == 8, false), (op == 7, false), (op == 6, false), (op == 5, false), (op == 12, false), (op == 4, false)] ⟨h17, h16, h15, h14, h11, h10, h13, h9, h8, h7, h6, h5, h12, h4, trivial⟩ ?_
    refine Goes.call0 99 #[.int .i64 (b), .int .i64 (c)] (.int .i64 (y30I b c)) (fun w' _ hI => ry30I_any b c w') ?_
    refine Goes.run [] [] trivial ?_
    exact Goes.ret [] (.int .i64 (y30I b c)) fun w' hm hI => ⟨by unfold vkP; rw [h4, h12, h5, h6, h7, h8, h9, h13, h10, h11, h14, h15, h16, h17] <;> rfl, bel0 hI⟩
  | false =>
    refine Goes.run [0, 0, 0, 0, 0, 0, 0, 0, 0, 0, 0, 0, 0, 0] [(op == 17, false), (op == 16, false), (op == 15, false), (op == 14, false), (op == 11, false), (op == 10, false), (op == 13, false), (op == 9, false), (op == 8, false), (op == 7, false), (op == 6, false), (op == 5, false), (op == 12, false), (op == 4, false)] ⟨h17, h16, h15, h14, h11, h10, h13, h9, h8, h7, h6, h5, h12, h4, trivial⟩ ?_
    exact Goes.ret [] (.int .i64 (b)) fun w' hm hI => ⟨by unfold vkP; rw [h4, h12, h5, h6, h7, h8, h9, h13, h10, h11, h14, h15, h16, h17] <;> rfl, bel0 hI⟩
end Go.Proofs.YtddbiiejilcbbaaGreatDoor
