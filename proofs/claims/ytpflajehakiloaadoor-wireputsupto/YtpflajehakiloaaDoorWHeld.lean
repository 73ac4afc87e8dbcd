/- A region that draws its order, walked by hand, in a large frame: each operation by one law, the frame never opened. -/
import Derived.Test.YtpflajehakiloaaDoorWLaw
import Derived.OrdersHeld
import Derived.BigRegion
namespace Go.Proofs.YtpflajehakiloaaDoor
open Go Go.RowKit

variable {ops : Array Oper} {S : World → Prop} {o : Oper} {a : Act}

theorem y_move {x : Operand} {v : Value} (hop : o.op = .move x) (hw : Region.wanted o (yielded ops a.tmps) = true) (hv : a.eval x = v) : YieldsIf Tryd.prog ops S o v a :=
  .inl ⟨hw, fun w _ => hv ▸ BigFrame.run_move x hop w⟩
theorem y_assign {x : Operand} {v : Value} (hop : o.op = .assign x) (hw : Region.wanted o (yielded ops a.tmps) = true) (hv : a.eval x = v) : YieldsIf Tryd.prog ops S o v a :=
  .inl ⟨hw, fun w _ => hv ▸ BigFrame.run_assign x hop w⟩
theorem y_conv {x : Operand} {v : Value} {t : ByteArray} (hop : o.op = .convert 22 9 x) (hw : Region.wanted o (yielded ops a.tmps) = true) (hv : a.eval x = v)
    (hc : ∀ w, S w → (convert 22 9 v).run Tryd.prog w = .ok (.string t) w) : YieldsIf Tryd.prog ops S o (.string t) a :=
  .inl ⟨hw, fun w h => by unfold execOp; rw [hop]; simp [hv, hc w h]⟩
theorem y_slice {x lo hi : Operand} {b off n cap j k : Nat} (hop : o.op = .slice 22 x (some lo) (some hi) none) (hw : Region.wanted o (yielded ops a.tmps) = true)
    (hx : a.eval x = .slice (some ⟨b, off, none⟩) n cap) (hl : a.eval lo = .int .i64 (j : Int)) (hh : a.eval hi = .int .i64 ((j : Int) + (k : Int))) (h1 : j + k ≤ cap) (h2 : ¬ cap = j) :
    YieldsIf Tryd.prog ops S o (.slice (some ⟨b, off + j, none⟩) k (cap - j)) a :=
  .inl ⟨hw, fun w _ => by
    have e1 : (0 : Int) ≤ (j : Int) := by omega
    have e2 : (j : Int) ≤ (j : Int) + (k : Int) := by omega
    have e3 : (j : Int) + (k : Int) ≤ (cap : Int) := by omega
    have e6 : ((j : Int) + (k : Int)).toNat = j + k := by omega
    unfold execOp; rw [hop]; simp only [hx, hl, hh, Option.map_some, Option.map_none]; go_simp⟩
theorem y_neq {x y : Operand} {s t : ByteArray} (hop : o.op = .binOp .neq 9 x y 9) (hw : Region.wanted o (yielded ops a.tmps) = true) (hx : a.eval x = .string s) (hy : a.eval y = .string t) :
    YieldsIf Tryd.prog ops S o (.bool (!(s.toList == t.toList))) a :=
  .inl ⟨hw, fun w _ => by unfold execOp; rw [hop]; simp only [hx, hy]; go_simp⟩
theorem y_eql {x y : Operand} {s t : ByteArray} (hop : o.op = .binOp .eql 9 x y 9) (hw : Region.wanted o (yielded ops a.tmps) = true) (hx : a.eval x = .string s) (hy : a.eval y = .string t) :
    YieldsIf Tryd.prog ops S o (.bool (s.toList == t.toList)) a :=
  .inl ⟨hw, fun w _ => by unfold execOp; rw [hop]; simp only [hx, hy]; go_simp⟩
theorem y_not {x : Operand} {b : Bool} (hop : o.op = .unOp .not 4 x) (hw : Region.wanted o (yielded ops a.tmps) = true) (hx : a.eval x = .bool b) :
    YieldsIf Tryd.prog ops S o (.bool (!b)) a :=
  .inl ⟨hw, fun w _ => by unfold execOp; rw [hop]; simp only [hx]; go_simp⟩
theorem y_pick {c x y : Operand} {b : Bool} {v : Value} (hop : o.op = .pick c x y) (hw : Region.wanted o (yielded ops a.tmps) = true) (hc : a.eval c = .bool b) (hv : (if b then a.eval x else a.eval y) = v) :
    YieldsIf Tryd.prog ops S o v a :=
  .inl ⟨hw, fun w _ => by unfold execOp; rw [hop]; simp only [hc]; cases b <;> (simp at hv; simp [asBool, hv])⟩
theorem y_skip {v : Value} (hw : Region.wanted o (yielded ops a.tmps) = false) (hv : v = undef) : YieldsIf Tryd.prog ops S o v a := .inr ⟨hw, hv⟩

variable {Q : Exit → Act → World → Prop} {md : Region.Mode} {fuel : Nat} {listed : Array Bool} {w : World} {i : Nat}

/-- The one operation that may come up. -/
theorem h_one (hr : Region.ready md ops listed = [i]) (hi : ops[i]? = some o) (hw : Region.wanted o (yielded ops a.tmps) = true)
    (h : o.wp Tryd.prog a w (fun a' w' => S w' ∧ wpAnyH Tryd.prog md ops Q S fuel (listed.setIfInBounds i true) a' w') Q) : wpAnyH Tryd.prog md ops Q S (fuel + 1) listed a w := by
  refine wpAnyH_all hr (by simp) (fun j hj => ?_)
  obtain rfl : j = i := by simpa using hj
  unfold wpOp
  rw [hi]
  simp only [hw, if_true]
  exact .inl h
/-- .. a conversion, in the world that is there. -/
theorem h_conv {x : Operand} {v : Value} {t : ByteArray} (hr : Region.ready md ops listed = [i]) (hi : ops[i]? = some o) (hw : Region.wanted o (yielded ops a.tmps) = true) (hop : o.op = .convert 22 9 x) (hv : a.eval x = v)
    (hc : (convert 22 9 v).run Tryd.prog w = .ok (.string t) w) (hS : S w)
    (h : wpAnyH Tryd.prog md ops Q S fuel (listed.setIfInBounds i true) (a.put o.dst (.string t)) w) : wpAnyH Tryd.prog md ops Q S (fuel + 1) listed a w := by
  refine h_one hr hi hw ?_
  have e : (execOp a.eval o).run Tryd.prog w = .ok (.value (.string t)) w := by unfold execOp; rw [hop]; simp [hv, hc]
  unfold Oper.wp
  rw [e, Oper.upon_value]
  exact ⟨hS, h⟩
/-- .. a call of a Go function. -/
theorem h_call {f : FuncId} {args : Array Value} (hr : Region.ready md ops listed = [i]) (hi : ops[i]? = some o) (hw : Region.wanted o (yielded ops a.tmps) = true)
    (he : ∀ w, (execOp a.eval o).run Tryd.prog w = .ok (.enter f args) w)
    (h : Calls Tryd.prog f args w fun e w' => ∃ v, e = .returned v ∧ S w' ∧ wpAnyH Tryd.prog md ops Q S fuel (listed.setIfInBounds i true) (a.put o.dst v) w') : wpAnyH Tryd.prog md ops Q S (fuel + 1) listed a w := by
  refine h_one hr hi hw ?_
  unfold Oper.wp
  rw [he w, Oper.upon_enter]
  refine h.mono fun e w' ⟨v, he, h1, h2⟩ => ?_
  subst he
  exact ⟨h1, h2⟩
/-- .. one operation, its slot named, the frame behind it written out. -/
theorem h_take {d : Nat} {v : Value} {tmps T : Array Value} {ds : List Deferred} (hi : ops[i]? = some o) (hd : o.dst = some d)
    (hs : Region.noSelect ops = true) (hf : Region.free md ops listed i = true) (hr : (Region.ready md ops listed).contains i = true)
    (hP : ∀ c T T' ds w, Q (.panic c) ⟨T, ds⟩ w → Q (.panic c) ⟨T', ds⟩ w) (hy : YieldsIf Tryd.prog ops S o v ⟨tmps, ds⟩) (hS : S w) (hT : tmps.setIfInBounds d v = T)
    (h : wpAnyH Tryd.prog md ops Q S fuel (listed.setIfInBounds i true) ⟨T, ds⟩ w) : wpAnyH Tryd.prog md ops Q S (fuel + 1) listed ⟨tmps, ds⟩ w := by
  refine wpAnyH_take hi hs hf hr (fun c a w h => by rw [hd] at h; exact hP c (a.tmps.setIfInBounds d v) a.tmps a.defers w h) hy hS ?_
  rw [hd]
  subst hT
  exact h
theorem h_conv2 {d : Nat} {x : Operand} {v : Value} {t : ByteArray} {tmps T : Array Value} {ds : List Deferred} (hr : Region.ready md ops listed = [i]) (hi : ops[i]? = some o) (hd : o.dst = some d) (hw : Region.wanted o (yielded ops tmps) = true) (hop : o.op = .convert 22 9 x) (hv : (Act.mk tmps ds).eval x = v)
    (hc : (convert 22 9 v).run Tryd.prog w = .ok (.string t) w) (hS : S w) (hT : tmps.setIfInBounds d (.string t) = T)
    (h : wpAnyH Tryd.prog md ops Q S fuel (listed.setIfInBounds i true) ⟨T, ds⟩ w) : wpAnyH Tryd.prog md ops Q S (fuel + 1) listed ⟨tmps, ds⟩ w := by
  refine h_conv hr hi hw hop hv hc hS ?_
  rw [hd]
  subst hT
  exact h
theorem h_call2 {d : Nat} {f : FuncId} {args : Array Value} {tmps : Array Value} {ds : List Deferred} (hr : Region.ready md ops listed = [i]) (hi : ops[i]? = some o) (hd : o.dst = some d) (hw : Region.wanted o (yielded ops tmps) = true)
    (he : ∀ w, (execOp (Act.mk tmps ds).eval o).run Tryd.prog w = .ok (.enter f args) w)
    (h : Calls Tryd.prog f args w fun e w' => ∃ v, e = .returned v ∧ S w' ∧ wpAnyH Tryd.prog md ops Q S fuel (listed.setIfInBounds i true) ⟨tmps.setIfInBounds d v, ds⟩ w') : wpAnyH Tryd.prog md ops Q S (fuel + 1) listed ⟨tmps, ds⟩ w := by
  refine h_call hr hi hw he (h.mono fun e w' ⟨v, he, h1, h2⟩ => ⟨v, he, h1, ?_⟩)
  rw [hd]
  exact h2
theorem h_norm {tmps T : Array Value} {ds : List Deferred} (hT : tmps = T) (h : wpAnyH Tryd.prog md ops Q S fuel listed ⟨T, ds⟩ w) : wpAnyH Tryd.prog md ops Q S fuel listed ⟨tmps, ds⟩ w := by
  subst hT; exact h
/-- The beginning, what stands behind it under a name. -/
theorem h_open {id : Nat} {a : Act} (hm : Tryd.prog.follows .mixedOrders = true) (hP : ∀ c T T' ds w, Q (.panic c) ⟨T, ds⟩ w → Q (.panic c) ⟨T', ds⟩ w)
    (h : ∀ Q' : Exit → Act → World → Prop, (∀ c T T' ds w, Q' (.panic c) ⟨T, ds⟩ w → Q' (.panic c) ⟨T', ds⟩ w) → (∀ a w, Q .normal a w → Q' .normal a w) →
      wpAnyH Tryd.prog .any ops Q' S ops.size (Array.replicate ops.size false) a w.drew) : (Code.region id ops true).wp Tryd.prog Q a w :=
  wp_region_held hm (h Q hP fun _ _ h => h)
theorem enter_go {f : FuncId} {xs : Array Operand} {ats : Array TypeId} {args : Array Value} (hop : o.op = .call { callee := .value (.func f), args := xs, argTypes := ats }) (hxs : #[] ++ xs.map a.eval ++ #[] = args)
    (hf : ∀ w, (callFunc f args).run Tryd.prog w = .ok (.enter f args) w) : ∀ w, (execOp a.eval o).run Tryd.prog w = .ok (.enter f args) w := by
  intro w
  have e : execOp a.eval o = callFunc f (#[] ++ xs.map a.eval ++ #[]) := by unfold execOp; rw [hop]; rfl
  rw [e, hxs, hf w]
end Go.Proofs.YtpflajehakiloaaDoor
