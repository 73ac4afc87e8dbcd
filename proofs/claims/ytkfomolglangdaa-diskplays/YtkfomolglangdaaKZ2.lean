/- More laws for the operations of a walk. -/
import Derived.Test.YtkfomolglangdaaKRefCrash
import Derived.Test.YtkfomolglangdaaKOffW
import Derived.Test.YtkfomolglangdaaKPoke
namespace Go.Proofs.Ytkfomolglangdaa
open Go Go.RowKit

section
variable {ops : Array Oper} {S : World → Prop} {o : Oper} {a : Act}
theorem y_idx {x y : Operand} {t : TypeId} {p k v : Value} (hop : o.op = .index t x y) (hw : Region.wanted o (yielded ops a.tmps) = true) (hx : a.eval x = p) (hy : a.eval y = k)
    (hr : ∀ w, (Instr.index t p k).run Try.prog w = .ok v w) : YieldsIf Try.prog ops S o v a :=
  .inl ⟨hw, fun w _ => by unfold execOp; rw [hop]; simp only [hx, hy, Sem.run_bind, hr w, Result.andThen_ok]; rfl⟩
theorem y_cnv {x : Operand} {s t : TypeId} {p v : Value} (hop : o.op = .convert s t x) (hw : Region.wanted o (yielded ops a.tmps) = true) (hx : a.eval x = p)
    (hr : ∀ w, (convert s t p).run Try.prog w = .ok v w) : YieldsIf Try.prog ops S o v a :=
  .inl ⟨hw, fun w _ => by unfold execOp; rw [hop]; simp only [hx, Sem.run_bind, hr w, Result.andThen_ok]; rfl⟩
theorem y_un {x : Operand} {t : TypeId} {u : UnOp} {p v : Value} (hop : o.op = .unOp u t x) (hw : Region.wanted o (yielded ops a.tmps) = true) (hx : a.eval x = p)
    (hr : ∀ w, (Op.unary u p).run Try.prog w = .ok v w) : YieldsIf Try.prog ops S o v a :=
  .inl ⟨hw, fun w _ => by unfold execOp; rw [hop]; simp only [hx, Sem.run_bind, hr w, Result.andThen_ok]; rfl⟩
theorem y_bin {x y : Operand} {t t' : TypeId} {b : BinOp} {k k' : IntKind} {m n : Int} {v : Value} (hop : o.op = .binOp b t x y t') (hw : Region.wanted o (yielded ops a.tmps) = true) (hx : a.eval x = .int k m) (hy : a.eval y = .int k' n)
    (hr : ∀ w, (binOp b t (.int k m) (.int k' n)).run Try.prog w = .ok v w) : YieldsIf Try.prog ops S o v a :=
  .inl ⟨hw, fun w _ => by
    unfold execOp; rw [hop]; simp only [hx, hy, Sem.run_bind]
    have : (eqGuard b t x y (.int k m) (.int k' n)).run Try.prog w = .ok () w := by
      unfold eqGuard; go_simp
    rw [this]; simp only [Result.andThen_ok, hr w]; rfl⟩
end
section
variable {ops : Array Oper} {Q : Exit → Act → World → Prop} {md : Region.Mode} {S : World → Prop} {z : Nat} {o : Oper} {a : Act} {fuel : Nat} {w w1 : World} {i : Nat} {L L' : Array Bool}
/-- .. a call of a Go function, the only one that may come up. -/
theorem z_call {d : Nat} {f : FuncId} {args : Array Value} {tmps : Array Value} {ds : List Deferred} (hr : Region.ready md ops L = [i]) (hi : ops[i]? = some o) (hd : o.dst = some d) (hw : Region.wanted o (yielded ops tmps) = true)
    (he : ∀ w, (execOp (Act.mk tmps ds).eval o).run Try.prog w = .ok (.enter f args) w) (hL : L.setIfInBounds i true = L')
    (h : Calls Try.prog f args w fun e w' => ∃ v, e = .returned v ∧ S w' ∧ Until md ops Q S z fuel L' ⟨tmps.setIfInBounds d v, ds⟩ w') : Until md ops Q S z (fuel + 1) L ⟨tmps, ds⟩ w := by
  subst hL
  refine z_one hr hi hw ?_
  unfold Oper.wp
  rw [he w, Oper.upon_enter]
  refine h.mono fun e w' ⟨v, he, h1, h2⟩ => ?_
  subst he
  show _ ∧ Until _ _ _ _ _ _ _ (Act.put _ _ _) _
  rw [hd]
  exact ⟨fun _ => h1, h2⟩
/-- .. two of them. -/
theorem z_two {j : Nat} (hr : Region.ready md ops L = [i, j])
    (h1 : wpOp Try.prog ops Q i (fun a' w' => ((L.setIfInBounds i true).getD z true = false → S w') ∧ Until md ops Q S z fuel (L.setIfInBounds i true) a' w') a w)
    (h2 : wpOp Try.prog ops Q j (fun a' w' => ((L.setIfInBounds j true).getD z true = false → S w') ∧ Until md ops Q S z fuel (L.setIfInBounds j true) a' w') a w) : Until md ops Q S z (fuel + 1) L a w := by
  refine z_all hr (by simp) (fun k hk => ?_)
  simp only [List.mem_cons, List.not_mem_nil, or_false] at hk
  rcases hk with rfl | rfl
  · exact h1
  · exact h2
theorem op_call {d : Nat} {f : FuncId} {args : Array Value} {tmps : Array Value} {ds : List Deferred} {K : Act → World → Prop} (hi : ops[i]? = some o) (hd : o.dst = some d) (hw : Region.wanted o (yielded ops tmps) = true)
    (he : ∀ w, (execOp (Act.mk tmps ds).eval o).run Try.prog w = .ok (.enter f args) w)
    (h : Calls Try.prog f args w fun e w' => ∃ v, e = .returned v ∧ K ⟨tmps.setIfInBounds d v, ds⟩ w') : wpOp Try.prog ops Q i K ⟨tmps, ds⟩ w := by
  unfold wpOp
  rw [hi]
  simp only [hw, if_true]
  refine .inl ?_
  unfold Oper.wp
  rw [he w, Oper.upon_enter]
  refine h.mono fun e w' ⟨v, he, h2⟩ => ?_
  subst he
  show K (Act.put _ _ _) _
  rw [hd]
  exact h2
theorem op_val {d : Nat} {v : Value} {tmps : Array Value} {ds : List Deferred} {K : Act → World → Prop} (hi : ops[i]? = some o) (hd : o.dst = some d) (hw : Region.wanted o (yielded ops tmps) = true)
    (he : (execOp (Act.mk tmps ds).eval o).run Try.prog w = .ok (.value v) w1)
    (h : K ⟨tmps.setIfInBounds d v, ds⟩ w1) : wpOp Try.prog ops Q i K ⟨tmps, ds⟩ w := by
  unfold wpOp
  rw [hi]
  simp only [hw, if_true]
  refine .inl ?_
  unfold Oper.wp
  rw [he, Oper.upon_value, hd]
  exact h
end
section
variable {ops : Array Oper} {o : Oper} {a : Act} {w w' : World} {rest : List Oper} {Q : Exit → Act → World → Prop}
/-- An operation of a region that keeps its order, by the same laws. -/
theorem wp_y {v : Value} {d : Nat} {tmps T : Array Value} {ds : List Deferred} (hg : o.guard = none) (hd : o.dst = some d) (hy : YieldsIf Try.prog ops (fun w' => w' = w) o v ⟨tmps, ds⟩) (hT : tmps.setIfInBounds d v = T) (hK : wpList Try.prog ops Q rest ⟨T, ds⟩ w) : wpList Try.prog ops Q (o :: rest) ⟨tmps, ds⟩ w := by
  subst hT
  refine wpList_plain hg fun K hK' => ?_
  rcases hy with ⟨_, h⟩ | ⟨h, _⟩
  · unfold Oper.wp
    rw [h w rfl, Oper.upon_value]
    refine hK' _ _ ?_
    rw [hd]; exact hK
  · rw [Region.wanted, hg] at h; cases h
theorem wp_do {tmps : Array Value} {ds : List Deferred} (hg : o.guard = none) (hd : o.dst = none) (hr : (execOp (Act.mk tmps ds).eval o).run Try.prog w = .ok .skip w') (hK : wpList Try.prog ops Q rest ⟨tmps, ds⟩ w') : wpList Try.prog ops Q (o :: rest) ⟨tmps, ds⟩ w := by
  refine wpList_plain hg fun K hK' => ?_
  unfold Oper.wp
  rw [hr]
  simp only [Oper.upon, hd]
  exact hK' _ _ hK
theorem wp_run {v : Value} {d : Nat} {tmps T : Array Value} {ds : List Deferred} (hg : o.guard = none) (hd : o.dst = some d) (hr : (execOp (Act.mk tmps ds).eval o).run Try.prog w = .ok (.value v) w') (hT : tmps.setIfInBounds d v = T) (hK : wpList Try.prog ops Q rest ⟨T, ds⟩ w') : wpList Try.prog ops Q (o :: rest) ⟨tmps, ds⟩ w := by
  subst hT
  refine wpList_plain hg fun K hK' => ?_
  unfold Oper.wp
  rw [hr, Oper.upon_value]
  refine hK' _ _ ?_
  rw [hd]; exact hK
end
end Go.Proofs.Ytkfomolglangdaa
