/- A region that draws its order, walked by hand: each operation by one law, the list of what has come up written out. -/
import Derived.Test.YtkfomolglangdaaKMem
import Derived.OrdersHeld
import Derived.BigRegion
namespace Go.Proofs.Ytkfomolglangdaa
open Go Go.RowKit

variable {ops : Array Oper} {S : World → Prop} {o : Oper} {a : Act}

theorem y_move {x : Operand} {v : Value} (hop : o.op = .move x) (hw : Region.wanted o (yielded ops a.tmps) = true) (hv : a.eval x = v) : YieldsIf Try.prog ops S o v a :=
  .inl ⟨hw, fun w _ => hv ▸ BigFrame.run_move x hop w⟩
theorem y_assign {x : Operand} {v : Value} (hop : o.op = .assign x) (hw : Region.wanted o (yielded ops a.tmps) = true) (hv : a.eval x = v) : YieldsIf Try.prog ops S o v a :=
  .inl ⟨hw, fun w _ => hv ▸ BigFrame.run_assign x hop w⟩
theorem y_pick {c x y : Operand} {b : Bool} {v : Value} (hop : o.op = .pick c x y) (hw : Region.wanted o (yielded ops a.tmps) = true) (hc : a.eval c = .bool b) (hv : (if b then a.eval x else a.eval y) = v) :
    YieldsIf Try.prog ops S o v a :=
  .inl ⟨hw, fun w _ => by unfold execOp; rw [hop]; simp only [hc]; cases b <;> (simp at hv; simp [asBool, hv])⟩
theorem y_skip {v : Value} (hw : Region.wanted o (yielded ops a.tmps) = false) (hv : v = undef) : YieldsIf Try.prog ops S o v a := .inr ⟨hw, hv⟩

theorem y_nil {x : Operand} {p : Addr} (hop : o.op = .nilCheck x) (hw : Region.wanted o (yielded ops a.tmps) = true) (hx : a.eval x = .pointer (some p)) : YieldsIf Try.prog ops S o (.pointer (some p)) a :=
  .inl ⟨hw, fun w _ => by unfold execOp; rw [hop]; simp only [hx]; rfl⟩
theorem y_val {v : Value} (hw : Region.wanted o (yielded ops a.tmps) = true) (h : ∀ w, S w → (execOp a.eval o).run Try.prog w = .ok (.value v) w) : YieldsIf Try.prog ops S o v a := .inl ⟨hw, h⟩
theorem y_faddr {x : Operand} {t f : Nat} {b i j : Nat} (hop : o.op = .fieldAddr t x f) (hw : Region.wanted o (yielded ops a.tmps) = true) (hx : a.eval x = .pointer (some ⟨b, i, none⟩))
    (hf : ∀ w, (Instr.fieldAt t (.pointer (some ⟨b, i, none⟩)) f).run Try.prog w = .ok (.pointer (some ⟨b, j, none⟩)) w) : YieldsIf Try.prog ops S o (.pointer (some ⟨b, j, none⟩)) a :=
  .inl ⟨hw, fun w _ => by unfold execOp; rw [hop]; simp only [hx, Sem.run_bind, hf w, Result.andThen_ok]; rfl⟩
theorem y_load {x : Operand} {t : TypeId} {p v : Value} (hop : o.op = .load t x) (hw : Region.wanted o (yielded ops a.tmps) = true) (hx : a.eval x = p)
    (hl : ∀ w, S w → (Instr.loadAt t p).run Try.prog w = .ok v w) : YieldsIf Try.prog ops S o v a :=
  .inl ⟨hw, fun w h => by unfold execOp; rw [hop]; simp only [hx, Sem.run_bind, hl w h, Result.andThen_ok]; rfl⟩
theorem y_look {x y : Operand} {t : TypeId} {ok : Bool} {p k v : Value} (hop : o.op = .lookup t x y ok) (hw : Region.wanted o (yielded ops a.tmps) = true) (hx : a.eval x = p) (hy : a.eval y = k)
    (hl : ∀ w, S w → (Instr.lookup t p k ok).run Try.prog w = .ok v w) : YieldsIf Try.prog ops S o v a :=
  .inl ⟨hw, fun w h => by unfold execOp; rw [hop]; simp only [hx, hy, Sem.run_bind, hl w h, Result.andThen_ok]; rfl⟩
theorem y_leq {x y : Operand} {m n : Int} {r : Bool} (hop : o.op = .binOp .leq 3 x y 3) (hw : Region.wanted o (yielded ops a.tmps) = true) (hx : a.eval x = .int .i64 m) (hy : a.eval y = .int .i64 n) (hr : decide (m ≤ n) = r) :
    YieldsIf Try.prog ops S o (.bool r) a :=
  .inl ⟨hw, fun w _ => by subst hr; unfold execOp; rw [hop]; simp only [hx, hy]; go_simp⟩

variable {Q : Exit → Act → World → Prop} {md : Region.Mode} {fuel : Nat} {listed : Array Bool} {w w1 : World} {i : Nat} {L L' : Array Bool}

/-- The one operation that may come up. -/
theorem h_one (hr : Region.ready md ops listed = [i]) (hi : ops[i]? = some o) (hw : Region.wanted o (yielded ops a.tmps) = true)
    (h : o.wp Try.prog a w (fun a' w' => S w' ∧ wpAnyH Try.prog md ops Q S fuel (listed.setIfInBounds i true) a' w') Q) : wpAnyH Try.prog md ops Q S (fuel + 1) listed a w := by
  refine wpAnyH_all hr (by simp) (fun j hj => ?_)
  obtain rfl : j = i := by simpa using hj
  unfold wpOp
  rw [hi]
  simp only [hw, if_true]
  exact .inl h
/-- .. a call of a Go function. -/
theorem h_call {f : FuncId} {args : Array Value} (hr : Region.ready md ops listed = [i]) (hi : ops[i]? = some o) (hw : Region.wanted o (yielded ops a.tmps) = true)
    (he : ∀ w, (execOp a.eval o).run Try.prog w = .ok (.enter f args) w)
    (h : Calls Try.prog f args w fun e w' => ∃ v, e = .returned v ∧ S w' ∧ wpAnyH Try.prog md ops Q S fuel (listed.setIfInBounds i true) (a.put o.dst v) w') : wpAnyH Try.prog md ops Q S (fuel + 1) listed a w := by
  refine h_one hr hi hw ?_
  unfold Oper.wp
  rw [he w, Oper.upon_enter]
  refine h.mono fun e w' ⟨v, he, h1, h2⟩ => ?_
  subst he
  exact ⟨h1, h2⟩
/-- .. one operation, its slot named, the frame behind it written out. -/
theorem h_take {d : Nat} {v : Value} {tmps T : Array Value} {ds : List Deferred} (hi : ops[i]? = some o) (hd : o.dst = some d)
    (hs : Region.noSelect ops = true) (hf : Region.free md ops listed i = true) (hr : (Region.ready md ops listed).contains i = true)
    (hP : ∀ c T T' ds w, Q (.panic c) ⟨T, ds⟩ w → Q (.panic c) ⟨T', ds⟩ w) (hy : YieldsIf Try.prog ops S o v ⟨tmps, ds⟩) (hS : S w) (hT : tmps.setIfInBounds d v = T)
    (h : wpAnyH Try.prog md ops Q S fuel (listed.setIfInBounds i true) ⟨T, ds⟩ w) : wpAnyH Try.prog md ops Q S (fuel + 1) listed ⟨tmps, ds⟩ w := by
  refine wpAnyH_take hi hs hf hr (fun c a w h => by rw [hd] at h; exact hP c (a.tmps.setIfInBounds d v) a.tmps a.defers w h) hy hS ?_
  rw [hd]
  subst hT
  exact h
theorem h_call2 {d : Nat} {f : FuncId} {args : Array Value} {tmps : Array Value} {ds : List Deferred} (hr : Region.ready md ops listed = [i]) (hi : ops[i]? = some o) (hd : o.dst = some d) (hw : Region.wanted o (yielded ops tmps) = true)
    (he : ∀ w, (execOp (Act.mk tmps ds).eval o).run Try.prog w = .ok (.enter f args) w)
    (h : Calls Try.prog f args w fun e w' => ∃ v, e = .returned v ∧ S w' ∧ wpAnyH Try.prog md ops Q S fuel (listed.setIfInBounds i true) ⟨tmps.setIfInBounds d v, ds⟩ w') : wpAnyH Try.prog md ops Q S (fuel + 1) listed ⟨tmps, ds⟩ w := by
  refine h_call hr hi hw he (h.mono fun e w' ⟨v, he, h1, h2⟩ => ⟨v, he, h1, ?_⟩)
  rw [hd]
  exact h2
theorem h_norm {tmps T : Array Value} {ds : List Deferred} (hT : tmps = T) (h : wpAnyH Try.prog md ops Q S fuel listed ⟨T, ds⟩ w) : wpAnyH Try.prog md ops Q S fuel listed ⟨tmps, ds⟩ w := by
  subst hT; exact h
/-- The beginning, what stands behind it under a name. -/
theorem h_open {id : Nat} {a : Act} (hm : Try.prog.follows .mixedOrders = true) (hP : ∀ c T T' ds w, Q (.panic c) ⟨T, ds⟩ w → Q (.panic c) ⟨T', ds⟩ w)
    (h : ∀ Q' : Exit → Act → World → Prop, (∀ c T T' ds w, Q' (.panic c) ⟨T, ds⟩ w → Q' (.panic c) ⟨T', ds⟩ w) → (∀ a w, Q .normal a w → Q' .normal a w) →
      wpAnyH Try.prog .any ops Q' S ops.size (Array.replicate ops.size false) a w.drew) : (Code.region id ops true).wp Try.prog Q a w :=
  wp_region_held hm (h Q hP fun _ _ h => h)
theorem enter_go {f : FuncId} {xs : Array Operand} {ats : Array TypeId} {args : Array Value} (hop : o.op = .call { callee := .value (.func f), args := xs, argTypes := ats }) (hxs : #[] ++ xs.map a.eval ++ #[] = args)
    (hf : ∀ w, (callFunc f args).run Try.prog w = .ok (.enter f args) w) : ∀ w, (execOp a.eval o).run Try.prog w = .ok (.enter f args) w := by
  intro w
  have e : execOp a.eval o = callFunc f (#[] ++ xs.map a.eval ++ #[]) := by unfold execOp; rw [hop]; rfl
  rw [e, hxs, hf w]
theorem h_openL {id : Nat} (hm : Try.prog.follows .mixedOrders = true) (hns : Region.noSelect ops = true) (hP : ∀ c T T' ds w, Q (.panic c) ⟨T, ds⟩ w → Q (.panic c) ⟨T', ds⟩ w) (hL : Array.replicate ops.size false = L)
    (h : ∀ Q' : Exit → Act → World → Prop, Region.noSelect ops = true → (∀ c T T' ds w, Q' (.panic c) ⟨T, ds⟩ w → Q' (.panic c) ⟨T', ds⟩ w) → (∀ a w, Q .normal a w → Q' .normal a w) →
      wpAnyH Try.prog .any ops Q' S ops.size L a w.drew) : (Code.region id ops true).wp Try.prog Q a w := by
  refine h_open (S := S) hm hP fun Q' hP' hN => ?_
  rw [hL]
  exact h Q' hns hP' hN
theorem h_takeL {d : Nat} {v : Value} {tmps T : Array Value} {ds : List Deferred} (hns : Region.noSelect ops = true) (hi : ops[i]? = some o) (hd : o.dst = some d)
    (hf : Region.free md ops L i = true) (hr : (Region.ready md ops L).contains i = true)
    (hP : ∀ c T T' ds w, Q (.panic c) ⟨T, ds⟩ w → Q (.panic c) ⟨T', ds⟩ w) (hy : YieldsIf Try.prog ops S o v ⟨tmps, ds⟩) (hS : S w) (hT : tmps.setIfInBounds d v = T) (hL : L.setIfInBounds i true = L')
    (h : wpAnyH Try.prog md ops Q S fuel L' ⟨T, ds⟩ w) : wpAnyH Try.prog md ops Q S (fuel + 1) L ⟨tmps, ds⟩ w := by
  subst hL
  exact h_take hi hd hns hf hr hP hy hS hT h
theorem h_callL {d : Nat} {f : FuncId} {args : Array Value} {tmps : Array Value} {ds : List Deferred} (hr : Region.ready md ops L = [i]) (hi : ops[i]? = some o) (hd : o.dst = some d) (hw : Region.wanted o (yielded ops tmps) = true)
    (he : ∀ w, (execOp (Act.mk tmps ds).eval o).run Try.prog w = .ok (.enter f args) w) (hL : L.setIfInBounds i true = L')
    (h : Calls Try.prog f args w fun e w' => ∃ v, e = .returned v ∧ S w' ∧ wpAnyH Try.prog md ops Q S fuel L' ⟨tmps.setIfInBounds d v, ds⟩ w') : wpAnyH Try.prog md ops Q S (fuel + 1) L ⟨tmps, ds⟩ w := by
  subst hL
  exact h_call2 hr hi hd hw he h
/-- The one operation that may come up, by its run. -/
theorem h_valL {d : Nat} {v : Value} {tmps T : Array Value} {ds : List Deferred} (hr : Region.ready md ops L = [i]) (hi : ops[i]? = some o) (hd : o.dst = some d) (hw : Region.wanted o (yielded ops tmps) = true)
    (he : (execOp (Act.mk tmps ds).eval o).run Try.prog w = .ok (.value v) w1) (hS : S w1) (hT : tmps.setIfInBounds d v = T) (hL : L.setIfInBounds i true = L')
    (h : wpAnyH Try.prog md ops Q S fuel L' ⟨T, ds⟩ w1) : wpAnyH Try.prog md ops Q S (fuel + 1) L ⟨tmps, ds⟩ w := by
  subst hL
  subst hT
  refine h_one hr hi hw ?_
  unfold Oper.wp
  rw [he, Oper.upon_value, hd]
  exact ⟨hS, h⟩
theorem h_skipL {tmps : Array Value} {ds : List Deferred} (hr : Region.ready md ops L = [i]) (hi : ops[i]? = some o) (hd : o.dst = none) (hw : Region.wanted o (yielded ops tmps) = true)
    (he : (execOp (Act.mk tmps ds).eval o).run Try.prog w = .ok .skip w1) (hS : S w1) (hL : L.setIfInBounds i true = L')
    (h : wpAnyH Try.prog md ops Q S fuel L' ⟨tmps, ds⟩ w1) : wpAnyH Try.prog md ops Q S (fuel + 1) L ⟨tmps, ds⟩ w := by
  subst hL
  refine h_one hr hi hw ?_
  unfold Oper.wp
  rw [he]
  simp only [Oper.upon, hd]
  exact ⟨hS, h⟩
theorem run_mapUpdate {t : TypeId} {p q r : Operand} {x y z : Value} (hop : o.op = .mapUpdate t p q r) (hp : a.eval p = x) (hq : a.eval q = y) (hz : a.eval r = z) (hr : (Instr.mapUpdate t x y z).run Try.prog w = .ok () w1) :
    (execOp a.eval o).run Try.prog w = .ok .skip w1 := by
  unfold execOp; rw [hop]; simp only [hp, hq, hz, Sem.run_bind, hr, Result.andThen_ok]; rfl
theorem run_storeOp {t : TypeId} {p q : Operand} {x y : Value} (hop : o.op = .store t p q) (hp : a.eval p = x) (hq : a.eval q = y) (hr : (Instr.storeAt t x y).run Try.prog w = .ok () w1) :
    (execOp a.eval o).run Try.prog w = .ok .skip w1 := by
  unfold execOp; rw [hop]; simp only [hp, hq, Sem.run_bind, hr, Result.andThen_ok]; rfl
theorem run_lenOp {x : Operand} {v p : Value} (hop : o.op = .call { callee := .builtin .len, args := #[x], argTypes := #[65] }) (hx : a.eval x = p) (hr : ∀ ty, (Builtin.len_ #[65] ty #[p]).run Try.prog w = .ok v w) :
    (execOp a.eval o).run Try.prog w = .ok (.value v) w := by
  unfold execOp; rw [hop]
  have h1 : (Builtin.len_ #[65] o.type #[a.eval x]).run Try.prog w = .ok v w := by rw [hx]; exact hr _
  simp [resolve, invoke, go_sem, -Array.getD_eq_getD_getElem?] at h1 ⊢
  rw [h1]; rfl
end Go.Proofs.Ytkfomolglangdaa
