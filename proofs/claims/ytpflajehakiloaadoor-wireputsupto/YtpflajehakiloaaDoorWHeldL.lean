/- The laws of WHeld with the list of what has come up written out: a longer region. -/
import Derived.Test.YtpflajehakiloaaDoorWHeld
namespace Go.Proofs.YtpflajehakiloaaDoor
open Go Go.RowKit

variable {ops : Array Oper} {S : World → Prop} {o : Oper} {a : Act}
theorem y_add {x y : Operand} {s t : ByteArray} (hop : o.op = .binOp .add 9 x y 9) (hw : Region.wanted o (yielded ops a.tmps) = true) (hx : a.eval x = .string s) (hy : a.eval y = .string t) (hz : s.size + t.size ≤ 4611686018427387904) :
    YieldsIf Tryd.prog ops S o (.string (s ++ t)) a :=
  .inl ⟨hw, fun w _ => by unfold execOp; rw [hop]; simp only [hx, hy]; go_simp; omega⟩
theorem y_eqlT {x y : Operand} {s t : ByteArray} (he : (s.toList == t.toList) = true) (hop : o.op = .binOp .eql 9 x y 9) (hw : Region.wanted o (yielded ops a.tmps) = true) (hx : a.eval x = .string s) (hy : a.eval y = .string t) :
    YieldsIf Tryd.prog ops S o (.bool true) a := by
  have h := y_eql (S := S) hop hw hx hy
  rw [he] at h
  exact h

variable {Q : Exit → Act → World → Prop} {md : Region.Mode} {fuel : Nat} {w : World} {i : Nat} {L L' : Array Bool}
theorem h_openL {id : Nat} (hm : Tryd.prog.follows .mixedOrders = true) (hns : Region.noSelect ops = true) (hP : ∀ c T T' ds w, Q (.panic c) ⟨T, ds⟩ w → Q (.panic c) ⟨T', ds⟩ w) (hL : Array.replicate ops.size false = L)
    (h : ∀ Q' : Exit → Act → World → Prop, Region.noSelect ops = true → (∀ c T T' ds w, Q' (.panic c) ⟨T, ds⟩ w → Q' (.panic c) ⟨T', ds⟩ w) → (∀ a w, Q .normal a w → Q' .normal a w) →
      wpAnyH Tryd.prog .any ops Q' S ops.size L a w.drew) : (Code.region id ops true).wp Tryd.prog Q a w := by
  refine h_open (S := S) hm hP fun Q' hP' hN => ?_
  rw [hL]
  exact h Q' hns hP' hN
theorem h_takeL {d : Nat} {v : Value} {tmps T : Array Value} {ds : List Deferred} (hns : Region.noSelect ops = true) (hi : ops[i]? = some o) (hd : o.dst = some d)
    (hf : Region.free md ops L i = true) (hr : (Region.ready md ops L).contains i = true)
    (hP : ∀ c T T' ds w, Q (.panic c) ⟨T, ds⟩ w → Q (.panic c) ⟨T', ds⟩ w) (hy : YieldsIf Tryd.prog ops S o v ⟨tmps, ds⟩) (hS : S w) (hT : tmps.setIfInBounds d v = T) (hL : L.setIfInBounds i true = L')
    (h : wpAnyH Tryd.prog md ops Q S fuel L' ⟨T, ds⟩ w) : wpAnyH Tryd.prog md ops Q S (fuel + 1) L ⟨tmps, ds⟩ w := by
  subst hL
  exact h_take hi hd hns hf hr hP hy hS hT h
theorem h_convL {d : Nat} {x : Operand} {v : Value} {t : ByteArray} {tmps T : Array Value} {ds : List Deferred} (hr : Region.ready md ops L = [i]) (hi : ops[i]? = some o) (hd : o.dst = some d) (hw : Region.wanted o (yielded ops tmps) = true) (hop : o.op = .convert 22 9 x) (hv : (Act.mk tmps ds).eval x = v)
    (hc : (convert 22 9 v).run Tryd.prog w = .ok (.string t) w) (hS : S w) (hT : tmps.setIfInBounds d (.string t) = T) (hL : L.setIfInBounds i true = L')
    (h : wpAnyH Tryd.prog md ops Q S fuel L' ⟨T, ds⟩ w) : wpAnyH Tryd.prog md ops Q S (fuel + 1) L ⟨tmps, ds⟩ w := by
  subst hL
  exact h_conv2 hr hi hd hw hop hv hc hS hT h
theorem h_callL {d : Nat} {f : FuncId} {args : Array Value} {tmps : Array Value} {ds : List Deferred} (hr : Region.ready md ops L = [i]) (hi : ops[i]? = some o) (hd : o.dst = some d) (hw : Region.wanted o (yielded ops tmps) = true)
    (he : ∀ w, (execOp (Act.mk tmps ds).eval o).run Tryd.prog w = .ok (.enter f args) w) (hL : L.setIfInBounds i true = L')
    (h : Calls Tryd.prog f args w fun e w' => ∃ v, e = .returned v ∧ S w' ∧ wpAnyH Tryd.prog md ops Q S fuel L' ⟨tmps.setIfInBounds d v, ds⟩ w') : wpAnyH Tryd.prog md ops Q S (fuel + 1) L ⟨tmps, ds⟩ w := by
  subst hL
  exact h_call2 hr hi hd hw he h
end Go.Proofs.YtpflajehakiloaaDoor
